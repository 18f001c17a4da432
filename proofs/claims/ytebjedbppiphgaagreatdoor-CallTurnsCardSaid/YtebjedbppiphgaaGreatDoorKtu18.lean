/- The runes of a text: how many bytes the first one has, the pieces, what is cut, found and turned: plain lists. No function of the program is named here. -/
import Derived.Test.YtebjedbppiphgaaGreatDoorKtu03
import Derived.Laws.RangeAny
import Derived.Lib.Strings
import Derived.Lib.IndexBytes
namespace Go.Proofs.YtebjedbppiphgaaGreatDoor.Run
open Go.RowKit Kit
/-- a byte of a text; 0 behind its end -/
def atN (l : List UInt8) (k : Nat) : Nat := (l.getD k 0).toNat
theorem atN_lt (l : List UInt8) (k : Nat) : atN l k < 256 := UInt8.toNat_lt _
theorem atN_in {l : List UInt8} {k : Nat} {x : UInt8} (h : l[k]? = some x) : atN l k = x.toNat := by simp [atN, h]
/-- how many bytes the first rune of a text of n bytes has, by the first four of them -/
def szN (n a b c d : Nat) : Nat :=
  if 194 ≤ a ∧ a ≤ 223 ∧ 2 ≤ n ∧ 128 ≤ b ∧ b ≤ 191 then 2
  else if 224 ≤ a ∧ a ≤ 239 ∧ 3 ≤ n ∧ 128 ≤ b ∧ b ≤ 191 ∧ (a = 224 → 160 ≤ b) ∧ (a = 237 → b ≤ 159) ∧ 128 ≤ c ∧ c ≤ 191 then 3
  else if 240 ≤ a ∧ a ≤ 244 ∧ 4 ≤ n ∧ 128 ≤ b ∧ b ≤ 191 ∧ (a = 240 → 144 ≤ b) ∧ (a = 244 → b ≤ 143) ∧ 128 ≤ c ∧ c ≤ 191 ∧ 128 ≤ d ∧ d ≤ 191 then 4
  else if n = 0 then 0 else 1
def szL (l : List UInt8) : Nat := szN l.length (atN l 0) (atN l 1) (atN l 2) (atN l 3)
/-- the number of a rune of s bytes -/
def valN (s a b c d : Nat) : Nat :=
  if s = 2 then a % 32 * 64 + b % 64
  else if s = 3 then a % 16 * 4096 + b % 64 * 64 + c % 64
  else if s = 4 then a % 8 * 262144 + b % 64 * 4096 + c % 64 * 64 + d % 64
  else if a < 128 then a else 65533
def valL (l : List UInt8) : Nat := valN (szL l) (atN l 0) (atN l 1) (atN l 2) (atN l 3)

theorem get_list (s : ByteArray) (i : Nat) (h : i < s.size) : s.data.toList[i]? = some (s.get! i) := by
  have h1 := Lib.data_getElem? s i h
  have h2 := get_at s i h
  rw [Nat.add_zero] at h2
  rw [h1, h2]
theorem at_get (s : ByteArray) (pos k : Nat) (h : pos + k < s.size) : (s.get! (pos + k)).toNat = atN (s.data.toList.drop pos) k := by
  rw [atN_in (x := s.get! (pos + k)) (by rw [List.getElem?_drop]; exact get_list s (pos + k) h)]
/-- the model's own decoding -/
def decN (n a b c d : Nat) : Nat × Nat :=
  if a < 0x80 then (a, 1)
  else if (a / 32 == 6 && (decide (1 < n) && b / 64 == 2)) = true then
    if a % 32 * 64 + b % 64 ≥ 0x80 then (a % 32 * 64 + b % 64, 2) else (Utf8.runeError, 1)
  else if (a / 16 == 14 && (decide (1 < n) && b / 64 == 2) && (decide (2 < n) && c / 64 == 2)) = true then
    if (decide (a % 16 * 4096 + b % 64 * 64 + c % 64 ≥ 0x800) && Utf8.valid (a % 16 * 4096 + b % 64 * 64 + c % 64 : Nat)) = true then (a % 16 * 4096 + b % 64 * 64 + c % 64, 3) else (Utf8.runeError, 1)
  else if (a / 8 == 30 && (decide (1 < n) && b / 64 == 2) && (decide (2 < n) && c / 64 == 2) && (decide (3 < n) && d / 64 == 2)) = true then
    if (decide (a % 8 * 262144 + b % 64 * 4096 + c % 64 * 64 + d % 64 ≥ 0x10000) && Utf8.valid (a % 8 * 262144 + b % 64 * 4096 + c % 64 * 64 + d % 64 : Nat)) = true then (a % 8 * 262144 + b % 64 * 4096 + c % 64 * 64 + d % 64, 4) else (Utf8.runeError, 1)
  else (Utf8.runeError, 1)
set_option maxRecDepth 100000 in
theorem valid_iff (c : Nat) : Utf8.valid (c : Int) = true ↔ c < 55296 ∨ 57344 ≤ c ∧ c ≤ 1114111 := by
  simp only [Utf8.valid, Bool.or_eq_true, Bool.and_eq_true, decide_eq_true_eq]
  omega
set_option maxRecDepth 100000 in
set_option maxHeartbeats 4000000 in
theorem dec_is (n a b c d : Nat) (hn : 0 < n) (ha : a < 256) (hb : b < 256) (hc : c < 256) (hd : d < 256) : decN n a b c d = (valN (szN n a b c d) a b c d, szN n a b c d) := by
  by_cases h1 : a < 128
  · have e : szN n a b c d = 1 := by
      unfold szN
      rw [if_neg (by omega), if_neg (by omega), if_neg (by omega), if_neg (by omega)]
    rw [e, decN, if_pos h1, valN, if_neg (by omega), if_neg (by omega), if_neg (by omega), if_pos h1]
  · have hE : ∀ k, szN n a b c d = k → k ≠ 2 → k ≠ 3 → k ≠ 4 → k = 1 → (Utf8.runeError, 1) = (valN (szN n a b c d) a b c d, szN n a b c d) := by
      intro k hk h2 h3 h4 h5
      rw [hk, h5, valN, if_neg (by omega), if_neg (by omega), if_neg (by omega), if_neg h1]
      rfl
    unfold decN
    rw [if_neg h1]
    simp only [Bool.and_eq_true, beq_iff_eq, decide_eq_true_eq, valid_iff]
    split
    · split
      · have e : szN n a b c d = 2 := by unfold szN; rw [if_pos (by omega)]
        rw [e, valN, if_pos rfl]
      · refine hE 1 ?_ (by omega) (by omega) (by omega) rfl
        unfold szN
        rw [if_neg (by omega), if_neg (by omega), if_neg (by omega), if_neg (by omega)]
    · split
      · split
        · have e : szN n a b c d = 3 := by unfold szN; rw [if_neg (by omega), if_pos (by omega)]
          rw [e, valN, if_neg (by omega), if_pos rfl]
        · refine hE 1 ?_ (by omega) (by omega) (by omega) rfl
          unfold szN
          rw [if_neg (by omega), if_neg (by omega), if_neg (by omega), if_neg (by omega)]
      · split
        · split
          · have e : szN n a b c d = 4 := by unfold szN; rw [if_neg (by omega), if_neg (by omega), if_pos (by omega)]
            rw [e, valN, if_neg (by omega), if_neg (by omega), if_pos rfl]
          · refine hE 1 ?_ (by omega) (by omega) (by omega) rfl
            unfold szN
            rw [if_neg (by omega), if_neg (by omega), if_neg (by omega), if_neg (by omega)]
        · refine hE 1 ?_ (by omega) (by omega) (by omega) rfl
          unfold szN
          rw [if_neg (by omega), if_neg (by omega), if_neg (by omega), if_neg (by omega)]
theorem decode_is (s : ByteArray) (pos : Nat) (h : pos < s.size) : Utf8.decode s pos = (valL (s.data.toList.drop pos), szL (s.data.toList.drop pos)) := by
  have hlen : (s.data.toList.drop pos).length = s.size - pos := by rw [List.length_drop, Lib.size_eq]
  unfold valL szL
  rw [← dec_is _ _ _ _ _ (by omega) (atN_lt _ _) (atN_lt _ _) (atN_lt _ _) (atN_lt _ _), hlen]
  have e0 := at_get s pos 0 (by omega)
  have ek : ∀ k, (decide (pos + k < s.size) && ((s.get! (pos + k)).toNat / 64 == 2)) = (decide (k < s.size - pos) && atN (s.data.toList.drop pos) k / 64 == 2) := by
    intro k
    by_cases hk : pos + k < s.size
    · rw [at_get s pos k hk, decide_eq_true hk, decide_eq_true (show k < s.size - pos by omega)]
    · rw [decide_eq_false hk, decide_eq_false (show ¬ k < s.size - pos by omega), Bool.false_and, Bool.false_and]
  have eb : ∀ k, (decide (k < s.size - pos) && atN (s.data.toList.drop pos) k / 64 == 2) = true → (s.get! (pos + k)).toNat = atN (s.data.toList.drop pos) k := by
    intro k hk
    simp only [Bool.and_eq_true, decide_eq_true_eq] at hk
    exact at_get s pos k (by omega)
  unfold Utf8.decode decN
  simp only [e0, ek]
  generalize s.data.toList.drop pos = L at *
  split
  · rfl
  · split
    · rename_i hc
      simp only [Bool.and_eq_true (a := (_ / 32 == 6))] at hc
      rw [eb 1 hc.2]
    · split
      · rename_i hc
        rw [Bool.and_eq_true, Bool.and_eq_true] at hc
        rw [eb 1 hc.1.2, eb 2 hc.2]
      · split
        · rename_i hc
          rw [Bool.and_eq_true, Bool.and_eq_true, Bool.and_eq_true] at hc
          rw [eb 1 hc.1.1.2, eb 2 hc.1.2, eb 3 hc.2]
        · rfl

theorem sz_pos {l : List UInt8} (h : l ≠ []) : 1 ≤ szL l ∧ szL l ≤ l.length := by
  have h0 : 0 < l.length := List.length_pos_iff.2 h
  unfold szL szN
  repeat' split
  all_goals omega
/-- a text's runes -/
def pcs : Nat → List UInt8 → List (List UInt8)
  | 0, _ => []
  | f + 1, l => if l = [] then [] else l.take (szL l) :: pcs f (l.drop (szL l))
def ps (l : List UInt8) : List (List UInt8) := pcs l.length l
theorem pcs_nil : ∀ f, pcs f [] = []
  | 0 => rfl
  | f + 1 => by rw [pcs, if_pos rfl]
theorem pcs_eq : ∀ (f g : Nat) (l : List UInt8), l.length ≤ f → l.length ≤ g → pcs f l = pcs g l
  | 0, g, l, h, _ => by
    obtain rfl : l = [] := List.eq_nil_of_length_eq_zero (by omega)
    rw [pcs_nil, pcs_nil]
  | f + 1, 0, l, _, h => by
    obtain rfl : l = [] := List.eq_nil_of_length_eq_zero (by omega)
    rw [pcs_nil, pcs_nil]
  | f + 1, g + 1, l, h1, h2 => by
    by_cases h : l = []
    · subst h
      rw [pcs_nil, pcs_nil]
    · have := sz_pos h
      rw [pcs, pcs, if_neg h, if_neg h, pcs_eq f g _ (by rw [List.length_drop]; omega) (by rw [List.length_drop]; omega)]
theorem ps_nil : ps [] = [] := rfl
theorem ps_cons {l : List UInt8} (h : l ≠ []) : ps l = l.take (szL l) :: ps (l.drop (szL l)) := by
  have h1 := sz_pos h
  obtain ⟨n, hn⟩ : ∃ n, l.length = n + 1 := ⟨l.length - 1, by omega⟩
  unfold ps
  rw [hn, pcs, if_neg h]
  congr 1
  exact pcs_eq _ _ _ (by rw [List.length_drop]; omega) (Nat.le_refl _)
theorem ps_ind {p : List UInt8 → Prop} (h0 : p []) (h1 : ∀ l, l ≠ [] → p (l.drop (szL l)) → p l) : ∀ l, p l := by
  have : ∀ (n : Nat) (l : List UInt8), l.length ≤ n → p l := by
    intro n
    induction n with
    | zero => intro l hl; rw [List.eq_nil_of_length_eq_zero (show l.length = 0 by omega)]; exact h0
    | succ n ih =>
      intro l hl
      by_cases h : l = []
      · rw [h]; exact h0
      · have := sz_pos h
        exact h1 l h (ih _ (by rw [List.length_drop]; omega))
  exact fun l => this l.length l (Nat.le_refl _)
theorem ps_flat (l : List UInt8) : (ps l).flatten = l := by
  induction l using ps_ind with
  | h0 => rfl
  | h1 l h ih => rw [ps_cons h, List.flatten_cons, ih, List.take_append_drop]
theorem ps_len (l : List UInt8) : (ps l).length ≤ l.length := by
  induction l using ps_ind with
  | h0 => exact Nat.le_refl _
  | h1 l h ih =>
    have := sz_pos h
    rw [ps_cons h, List.length_cons]
    rw [List.length_drop] at ih
    omega
/-- at which byte the rune of a place begins -/
def offL (l : List UInt8) (k : Nat) : Nat := ((ps l).take k).flatten.length
theorem off_zero (l : List UInt8) : offL l 0 = 0 := by simp [offL]
theorem off_le (l : List UInt8) (k : Nat) : offL l k ≤ l.length := by
  have h := congrArg List.length (ps_flat l)
  have h2 : (ps l).flatten = ((ps l).take k).flatten ++ ((ps l).drop k).flatten := by rw [← List.flatten_append, List.take_append_drop]
  rw [h2, List.length_append] at h
  unfold offL
  omega
theorem off_cons {l : List UInt8} (h : l ≠ []) (k : Nat) : offL l (k + 1) = szL l + offL (l.drop (szL l)) k := by
  have := sz_pos h
  unfold offL
  rw [ps_cons h, List.take_succ_cons, List.flatten_cons, List.length_append, List.length_take]
  omega
theorem ps_drop : ∀ (k : Nat) (l : List UInt8), ps (l.drop (offL l k)) = (ps l).drop k
  | 0, l => by rw [off_zero, List.drop_zero, List.drop_zero]
  | k + 1, l => by
    by_cases h : l = []
    · subst h
      simp [ps_nil]
    · rw [off_cons h, ← List.drop_drop, ps_drop k, ps_cons h, List.drop_succ_cons]
theorem off_end {l : List UInt8} {k : Nat} (h : (ps l).length ≤ k) : offL l k = l.length := by
  unfold offL
  rw [List.take_of_length_le h, ps_flat]
theorem off_lt (l : List UInt8) (k : Nat) : k < (ps l).length ↔ offL l k < l.length := by
  constructor
  · intro h
    have h1 := ps_drop k l
    rcases Nat.lt_or_ge (offL l k) l.length with h2 | h2
    · exact h2
    · rw [List.drop_eq_nil_of_le h2, ps_nil] at h1
      have := congrArg List.length h1
      rw [List.length_drop] at this
      simp at this
      omega
  · intro h
    rcases Nat.lt_or_ge k (ps l).length with h2 | h2
    · exact h2
    · rw [off_end h2] at h
      omega
theorem drop_ne {l : List UInt8} {k : Nat} (h : k < (ps l).length) : l.drop (offL l k) ≠ [] := by
  have := (off_lt l k).1 h
  intro e
  have := congrArg List.length e
  rw [List.length_drop] at this
  simp at this
  omega
/-- the rune of a place -/
theorem ps_at {l : List UInt8} {k : Nat} (h : k < (ps l).length) : (ps l)[k]? = some ((l.drop (offL l k)).take (szL (l.drop (offL l k)))) := by
  have h1 := ps_drop k l
  rw [ps_cons (drop_ne h)] at h1
  have h2 := congrArg (fun x : List (List UInt8) => x[0]?) h1
  simp only [List.getElem?_cons_zero, List.getElem?_drop, Nat.add_zero] at h2
  exact h2.symm
theorem off_step {l : List UInt8} {k : Nat} (h : k < (ps l).length) : offL l (k + 1) = offL l k + szL (l.drop (offL l k)) := by
  have h1 := ps_at h
  have h2 := sz_pos (drop_ne h)
  conv => lhs; unfold offL
  rw [List.take_add_one, h1]
  simp only [Option.toList_some, List.flatten_append, List.flatten_cons, List.flatten_nil, List.append_nil, List.length_append, List.length_take]
  have e : (List.take k (ps l)).flatten.length = offL l k := rfl
  rw [e]
  omega
/-- does a text begin with another one? -/
def preB (l p : List UInt8) : Bool := decide (l.take p.length = p)
end Go.Proofs.YtebjedbppiphgaaGreatDoor.Run
