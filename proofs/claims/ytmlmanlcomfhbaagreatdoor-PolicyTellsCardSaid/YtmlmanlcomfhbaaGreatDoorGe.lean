/- What strconv.Atoi answers, at every text of at most 2^48 bytes: the number, or an error that is not nil. Its condition: the library's two sentinels hold values of an interface.
   What strconv.Itoa answers, at every int. Its condition: the library's table of powers of ten reads as it is laid.
   Where the first digit of a text stands (strings.IndexAny at "0123456789"): every text below 2^32 - 15 bytes, whatever its bytes.
   What strings.Cut answers at a separator of one byte: for every text within the form's reach. -/
import Derived.WalkKit
import Derived.Lib.AtoiErrMem
import Derived.WalkSmall
import Derived.Laws.RangeAny
import Derived.Laws.Runes
import Derived.WalkMore
import Derived.Lib.OthersKept
import Derived.Deep.WholeRow
import Derived.Test.YtmlmanlcomfhbaaGreatDoorShelf
import Derived.Test.YtmlmanlcomfhbaaGreatDoorGa
namespace Go.Proofs.YtmlmanlcomfhbaaGreatDoor.Cats
open Go.RowKit

/-- what lies in the two sentinels -/
def Errs (w : World) : Prop := (∃ ev, w.cell? ⟨6, 0, none⟩ = some ev ∧ (ev = .nilIface ∨ ∃ te pe, ev = .iface te pe)) ∧ (∃ ev, w.cell? ⟨7, 0, none⟩ = some ev ∧ (ev = .nilIface ∨ ∃ te pe, ev = .iface te pe))
theorem Errs.grown {w w' : World} (h : Errs w) (hb : Below w.heap.size w w') : Errs w' := by
  obtain ⟨⟨e1, h1, k1⟩, ⟨e2, h2, k2⟩⟩ := h
  exact ⟨⟨e1, (hb.cell (block_lt_of_cell h1)).trans h1, k1⟩, ⟨e2, (hb.cell (block_lt_of_cell h2)).trans h2, k2⟩⟩
/-- the number of a text; none: there is an error -/
def atoiO (l : List UInt8) : Option Int := match Lib.atoiAll l with | .ok v => some v | _ => none
def AtoiEnd (l : List UInt8) (w : World) (e : Ending) (w' : World) : Prop :=
  ((∃ v, atoiO l = some v ∧ e = .returned (.tuple #[.int .i64 v, .nilIface])) ∨ (atoiO l = none ∧ ∃ x t p, e = .returned (.tuple #[.int .i64 x, .iface t (.pointer (some p))]))) ∧ Below w.heap.size w w'
theorem atoi_c (s : ByteArray) (hlim : s.size ≤ 281474976710656) (w : World) (hE : Errs w) : Calls Tryz.prog 122 #[.string s] w (AtoiEnd s.data.toList w) := by
  obtain ⟨⟨e1, h1, k1⟩, ⟨e2, h2, k2⟩⟩ := hE
  cases h : Lib.atoiAll s.data.toList with
  | ok v =>
    refine (Tryz.strconv_Atoi_ok s (by omega) v h w).mono fun e w' ⟨he, hw⟩ => ⟨.inl ⟨v, by simp [atoiO, h], he⟩, ?_⟩
    rcases hw with rfl | ⟨t, rfl⟩
    · exact Below.refl _ _
    · exact Lib.bytesWorld_below _ _ _
  | range =>
    exact (Tryz.strconv_Atoi_range s hlim h e2 w h2 k2).mono fun e w' ⟨N, he, _, _, hb⟩ => ⟨.inr ⟨by simp [atoiO, h], _, _, _, he⟩, hb⟩
  | _ =>
    exact (Tryz.strconv_Atoi_syntax s hlim h e1 w h1 k1).mono fun e w' ⟨N, he, _, _, hb⟩ => ⟨.inr ⟨by simp [atoiO, h], _, _, _, he⟩, hb⟩
end Go.Proofs.YtmlmanlcomfhbaaGreatDoor.Cats
namespace Go.Proofs.YtmlmanlcomfhbaaGreatDoor.Kit
open Go.RowKit

/-- the table of powers of ten reads as it is laid -/
def Pows (w : World) : Prop := Lib.TabIs Tryz.prog w "internal/strconv.uint64pow10" .u64 Lib.pow10Tab
theorem Pows.grown {w w' : World} (h : Pows w) (hb : Below w.heap.size w w') : Pows w' := by
  have hg : Tryz.prog.globalNamed "internal/strconv.uint64pow10" = some 0 := by kernel_rfl
  have hc := Lib.TabIs.cell h hg 0 (by rw [Lib.pow10Tab_length]; omega)
  exact var?_below hb hg (block_lt_of_cell hc) h
theorem itoa_all (n : Int) (h0 : -9223372036854775808 ≤ n) (h1 : n ≤ 9223372036854775807) (w : World) (hP : Pows w) :
    Calls Tryz.prog 27 #[.int .i64 n] w fun e w' => e = .returned (.string ⟨(Lib.itoa n).toArray⟩) ∧ Below w.heap.size w w' :=
  (Tryz.strconv_Itoa n h0 h1 w hP).mono fun e w' ⟨he, k, os, hw⟩ => ⟨he, by subst hw; exact below_regrown w (w.drawn + k) os⟩
theorem itoa_nat (n : Nat) (h1 : n ≤ 9223372036854775807) (w : World) (hP : Pows w) :
    Calls Tryz.prog 27 #[.int .i64 n] w fun e w' => e = .returned (.string ⟨(Lib.decDigits n).toArray⟩) ∧ Below w.heap.size w w' := by
  have h := itoa_all (n : Int) (by omega) (by omega) w hP
  rwa [Lib.itoa_nonneg] at h
end Go.Proofs.YtmlmanlcomfhbaaGreatDoor.Kit
namespace Go.Proofs.YtmlmanlcomfhbaaGreatDoor.Addr
open Go.RowKit Kit

set_option maxRecDepth 100000 in
set_option maxHeartbeats 1000000 in
theorem validRune_c (r : Int) (b : Bool) (hb : validRune r = b) (w : World) : Calls Tryz.prog 152 #[.int .i32 r] w fun e w' => e = .returned (.bool b) ∧ w' = w := by
  have HB := Lib.hid hb
  clear hb
  go_enter Tryz.func152, Tryz.ntmps152
  go_wp2
  all_goals (go_ret; refine ⟨ret_bool ?_, rfl⟩; rw [← HB.out]; unfold validRune; first | exact (decide_eq_true (by omega)).symm | exact (decide_eq_false (by omega)).symm)

theorem cutAt_index' (c : UInt8) (l : List UInt8) : Lib.indexByte l c = -1 ∨ c ∈ l := by
  by_cases h : c ∈ l
  · exact .inr h
  · refine .inl ?_
    induction l with
    | nil => rfl
    | cons x r ih =>
      unfold Lib.indexByte
      have hx : (x == c) = false := by simp; exact fun e => h (by simp [e])
      rw [ih fun hm => h (by simp [hm])]
      simp [hx]
/-- the ten digits, as a text -/
def tensB : ByteArray := ⟨tens.toArray⟩
theorem tens_ascii : ∀ b ∈ tens, b.toNat < 128 := by decide +kernel
theorem tensB_size : tensB.size = 10 := by decide +kernel
theorem tensB_list : tensB.data.toList = tens := rfl
set_option maxRecDepth 100000 in
set_option maxHeartbeats 4000000 in
theorem indexRune_bad (S : ByteArray) (r : Int) (h0 : 128 ≤ r) (hne : r ≠ 65533) (hv : validRune r = false) (w : World) :
    Calls Tryz.prog 144 #[.string S, .int .i32 r] w fun e w' => e = .returned (.int .i64 (-1)) ∧ w' = w := by
  have Hv := Lib.hid (fun w1 => validRune_c r false hv w1)
  have d1 : decide (r < 128) = false := by simp; omega
  have d2 : (r == 65533) = false := by simpa using hne
  clear hv
  go_enter Tryz.func144, Tryz.ntmps144
  go_wp2_with (go_at_call 152; refine (Hv.out _).mono ?_; rintro e w' ⟨rfl, rfl⟩)
  go_ret
  exact ⟨rfl, rfl⟩

theorem iter_below (w : World) (s : ByteArray) (p : Nat) : Below w.heap.size w (w.iter s p) := below1 w _
set_option maxRecDepth 100000 in
set_option maxHeartbeats 4000000 in
theorem indexRune_err (S : ByteArray) (hS : ∀ b ∈ S.data.toList, b.toNat < 128) (w : World) :
    Calls Tryz.prog 144 #[.string S, .int .i32 65533] w fun e w' => e = .returned (.int .i64 (-1)) ∧ Below w.heap.size w w' := by
  have HA := Lib.hid hS
  clear hS
  go_enter Tryz.func144, Tryz.ntmps144
  go_wp2
  go_loopg [5, 6] S.size (fun g _ _ wx => ∃ i : Nat, i + g = S.size ∧ wx = w.iter S i)
  case atStart => exact ⟨0, by omega, rfl⟩
  case round =>
    obtain ⟨i, hig, rfl⟩ := hrel
    cases gk with
    | zero =>
      obtain rfl : i = S.size := by omega
      have hnx := run_next_end (P := Tryz.prog) w S S.size
      go_wp2
      go_ret
      exact ⟨rfl, iter_below _ _ _⟩
    | succ g =>
      have hi : i < S.size := by omega
      obtain ⟨x, hx⟩ : ∃ x : UInt8, S[i]'hi = x := ⟨_, rfl⟩
      have hx128 : x.toNat < 128 := HA.out x (List.mem_of_getElem? (by rw [← hx]; exact Lib.data_getElem? S i hi))
      have hnx := fun ty => run_next_ascii (P := Tryz.prog) w S i ty hi (by rw [hx]; exact hx128)
      rw [hx] at hnx
      clear hx
      have hne : ((x.toNat : Int) == 65533) = false := by simp; omega
      go_wp2
      go_roundg g
      case measure => omega
      case rel => exact ⟨i + 1, by omega, rfl⟩
set_option maxRecDepth 100000 in
set_option maxHeartbeats 4000000 in
theorem indexRune_high (S : ByteArray) (hS : ∀ b ∈ S.data.toList, b.toNat < 128) (hn : S.size = 10) (r : Int) (h0 : 128 ≤ r) (hne : r ≠ 65533) (hv : validRune r = true) (w : World) :
    Calls Tryz.prog 144 #[.string S, .int .i32 r] w fun e w' => e = .returned (.int .i64 (-1)) ∧ Below w.heap.size w w' := by
  have Hv := Lib.hid (fun w1 => validRune_c r true hv w1)
  obtain ⟨e1, e2, e3⟩ := encode_facts r (by rw [validRune_eq]; exact hv) h0
  have hcv := fun w1 => run_convert_int_string (P := Tryz.prog) w1 21 9 .i32 r (by kernel_rfl) Tryz.underlying9
  generalize Utf8.encode r = E at *
  obtain ⟨L, hL⟩ : ∃ L, E.size = L + 1 := ⟨E.size - 1, by omega⟩
  have hL1 : L < E.size := by omega
  have hL2 : L < S.size := by omega
  obtain ⟨y, hy⟩ : ∃ y : UInt8, E[L]'hL1 = y := ⟨_, rfl⟩
  obtain ⟨x, hx⟩ : ∃ x : UInt8, S[L]'hL2 = x := ⟨_, rfl⟩
  have hy128 : 128 ≤ y.toNat := by
    have := e3 (by omega)
    simp only [hL, Nat.add_sub_cancel] at this
    rw [hy] at this
    exact this
  have hx128 : x.toNat < 128 := hS x (List.mem_of_getElem? (by rw [← hx]; exact Lib.data_getElem? S L hL2))
  have hxy : ((x.toNat : Int) != (y.toNat : Int)) = true := by simp; omega
  have hno : Lib.indexByte (S.extract (L + 1) 10).data.toList y = -1 := by
    rw [Lib.extract_data]
    rcases cutAt_index' y ((S.data.toList.drop (L + 1)).take (10 - (L + 1))) with h | hm
    · exact h
    · have := hS y (List.mem_of_mem_drop (List.mem_of_mem_take hm))
      omega
  have hback : ((y.toNat : Int)).toNat.toUInt8 = y := by simp
  have Hi := fun w1 => Tryz.strings_IndexByte (S.extract (L + 1) 10) (y.toNat : Int) w1
  rw [hback, hno] at Hi
  have HI := Lib.hid (fun w1 => (Hi w1).mono fun e w2 (h : _ ∧ w2 = w1) => (⟨h.1, by rw [h.2]; exact Below.refl _ _⟩ : _ ∧ Below w1.heap.size w1 w2))
  have d1 : decide (r < 128) = false := by simp; omega
  have d2 : (r == 65533) = false := by simpa using hne
  clear hv e3 hS hy128 hx128 hback hno Hi
  go_enter Tryz.func144, Tryz.ntmps144
  go_wp2_with (go_at_call 152; refine (Hv.out _).mono ?_; rintro e w' ⟨rfl, rfl⟩)
  go_step3
  go_wp2_with fail
  refine wp_loop_rounds 1 ?_
  rw [rounds_succ]
  go_wp2_with fail
  go_step3
  go_wp2_with fail
  refine wp_region_quiet_below (by kernel_rfl) (by kernel_rfl) ?_
  repeat (go_big_quiet_step (fail))
  refine wpQuiet_nil ?_
  intro _ hw'
  obtain ⟨⟨dq, osq⟩, hw''⟩ := hw'
  subst hw''
  have hbe := below_regrown w' dq osq
  generalize Sort.grow (redrawn w' dq) osq = W at *
  go_wp2_with fail
  refine wp_region_quiet_below (by kernel_rfl) (by kernel_rfl) ?_
  repeat (go_big_quiet_step (first | (go_at_call 151; with_reducible exact Calls.regrown_of (HI.out _))))
  refine wpQuiet_nil ?_
  intro _ hw'
  obtain ⟨⟨dr, osr⟩, hw''⟩ := hw'
  subst hw''
  have hbf := below_regrown W dr osr
  generalize Sort.grow (redrawn W dr) osr = V at *
  go_wp2_with fail
  simp only [Exit.noGoto_ret, Exit.inBlock, Exit.then]
  go_ret
  exact ⟨rfl, on hbe hbf⟩
theorem decode_valid (s : ByteArray) (i : Nat) : (Utf8.decode s i).1 < 128 ∨ (Utf8.decode s i).1 = 65533 ∨ 128 ≤ (Utf8.decode s i).1 := by omega
/-- any rune beyond ASCII: the digits have none -/
theorem indexRune_c (r : Int) (h0 : 128 ≤ r) (w : World) : Calls Tryz.prog 144 #[.string tensB, .int .i32 r] w fun e w' => e = .returned (.int .i64 (-1)) ∧ Below w.heap.size w w' := by
  by_cases he : r = 65533
  · subst he
    exact indexRune_err tensB tens_ascii w
  · cases hv : validRune r with
    | false => exact (indexRune_bad tensB r h0 he hv w).mono fun e w' ⟨h1, h2⟩ => ⟨h1, by rw [h2]; exact Below.refl _ _⟩
    | true => exact indexRune_high tensB tens_ascii tensB_size r h0 he hv w
/-- the bytes of a rune beyond ASCII are beyond ASCII -/
theorem decode_wide (s : ByteArray) (i : Nat) (hi : i < s.size) (ha : 128 ≤ (s[i]'hi).toNat) : ∀ j, j < (Utf8.decode s i).2 → i + j < s.size ∧ 128 ≤ (s.get! (i + j)).toNat := by
  have hn : ¬ (s[i]'hi).toNat < 128 := by omega
  have h0 : s.get! i = s[i]'hi := by have := get_at s i hi; simpa using this
  simp only [Utf8.decode, get_at s i hi, hn, if_false]
  intro j
  repeat' split
  all_goals (intro hj; simp only [Bool.and_eq_true, decide_eq_true_eq, beq_iff_eq] at *)
  all_goals
    have h4 : j = 0 ∨ j = 1 ∨ j = 2 ∨ j = 3 := by omega
    rcases h4 with rfl | rfl | rfl | rfl
  all_goals first
    | omega
    | exact ⟨by omega, by rw [Nat.add_zero, h0]; exact ha⟩
    | exact ⟨by omega, by omega⟩
theorem NoAny.wide {s cs : List UInt8} {i k : Nat} (h : Lib.NoAny s cs i) (hk : ∀ j, j < k → ∀ b, s[i + j]? = some b → cs.contains b = false) : Lib.NoAny s cs (i + k) := fun j b hj hb => by
  rcases Nat.lt_or_ge j i with h1 | h1
  · exact h j b h1 hb
  · exact hk (j - i) (by omega) b (by rw [show i + (j - i) = j by omega]; exact hb)
theorem get_list (s : ByteArray) (i : Nat) (h : i < s.size) : s.data.toList[i]? = some (s.get! i) := by
  have h1 := Lib.data_getElem? s i h
  have h2 := get_at s i h
  rw [Nat.add_zero] at h2
  rw [h1, h2]
theorem decode_no (s : ByteArray) (i : Nat) (hi : i < s.size) (ha : 128 ≤ (s[i]'hi).toNat) (h : Lib.NoAny s.data.toList tens i) : Lib.NoAny s.data.toList tens (i + (Utf8.decode s i).2) :=
  NoAny.wide h fun j hj b hb => by
    obtain ⟨h1, h2⟩ := decode_wide s i hi ha j hj
    rw [get_list s _ h1] at hb
    simp only [Option.some.injEq] at hb
    subst hb
    exact tens_not (by rw [UInt8.le_iff_toNat_le]; simp; omega)
theorem decode_in (s : ByteArray) (i : Nat) (hi : i < s.size) (ha : 128 ≤ (s[i]'hi).toNat) : i + (Utf8.decode s i).2 ≤ s.size := by
  have h1 := (decode_high s i hi ha).2
  have := (decode_wide s i hi ha ((Utf8.decode s i).2 - 1) (by omega)).1
  omega

set_option maxRecDepth 100000 in
set_option maxHeartbeats 4000000 in
theorem indexTens_short (s : ByteArray) (h8 : s.size ≤ 8) (w : World) :
    Calls Tryz.prog 135 #[.string s, .string ⟨#[48, 49, 50, 51, 52, 53, 54, 55, 56, 57]⟩] w fun e w' => e = .returned (.int .i64 (Lib.indexAny s.data.toList tens)) ∧ Below w.heap.size w w' := by
  have Hs := Lib.hid (fun w1 => Tryz.strings_shouldUseASCIISet (s.size : Int) w1)
  have h8z : decide ((8 : Int) < (s.size : Int)) = false := decide_eq_false (by omega)
  rw [h8z] at Hs
  go_enter Tryz.func135, Tryz.ntmps135
  go_wp2_with (go_at_call 145; refine (Hs.out _).mono ?_; rintro e w' ⟨rfl, rfl⟩)
  go_loopg [9, 10] s.size (fun g _ _ wx => ∃ i : Nat, s.size ≤ i + g ∧ i ≤ s.size ∧ Lib.NoAny s.data.toList tens i ∧ Below w'.heap.size w' wx ∧ wx.heap[w'.heap.size]? = some (.stringIter s i))
  case atStart => exact ⟨0, by omega, by omega, Lib.NoAny.zero _ _, iter_below _ _ _, World.iter_heap _ _ _⟩
  case round =>
    obtain ⟨i, hig, hle, hno, hb, hit⟩ := hrel
    have HN := Lib.hid hno
    clear hno
    by_cases hi : i < s.size
    · cases gk with
      | zero => omega
      | succ g =>
        obtain ⟨x, hx⟩ : ∃ x : UInt8, s[i]'hi = x := ⟨_, rfl⟩
        have hxl : s.data.toList[i]? = some x := by rw [← hx]; exact Lib.data_getElem? s i hi
        by_cases hx128 : x.toNat < 128
        · have hnx := fun ty => Lib.run_next_ascii_at (P := Tryz.prog) wr w'.heap.size s i ty hit hi (by rw [hx]; exact hx128)
          rw [hx] at hnx
          have hb3 := Lib.below_iterAt hb (Nat.le_refl w'.heap.size) s (i + 1)
          have hit3 := Lib.iterAt_heap wr w'.heap.size s i (i + 1) hit
          have hcon := Lib.contains_iff_indexByte tens x
          have hback : ((x.toNat : Int)).toNat.toUInt8 = x := by simp
          have Hr := fun w1 => Tryz.strings_IndexRune_ascii tensB (x.toNat : Int) w1 (by omega) (by omega)
          rw [hback, tensB_list] at Hr
          have HR := Lib.hid Hr
          have HX := Lib.hid hxl
          clear Hr hxl hx hback hb hit
          cases hin : tens.contains x
          · rw [hin] at hcon
            have hlt : ¬ ((0 : Int) ≤ Lib.indexByte tens x) := of_decide_eq_false hcon.symm
            clear hcon
            go_wp2_with fail
            refine (HR.out _).mono ?_
            rintro e w2 ⟨rfl, rfl⟩
            go_wp2
            go_roundg g
            case measure => omega
            case rel => exact ⟨i + 1, by omega, by omega, HN.out.succ HX.out hin, hb3, hit3⟩
          · rw [hin] at hcon
            have hge : (0 : Int) ≤ Lib.indexByte tens x := of_decide_eq_true hcon.symm
            clear hcon
            go_wp2_with fail
            refine (HR.out _).mono ?_
            rintro e w2 ⟨rfl, rfl⟩
            go_wp2
            go_ret
            exact ⟨ret_i64 (by rw [Lib.indexAny_hit HN.out HX.out hin]), hb3⟩
        · have hh : 128 ≤ (s[i]'hi).toNat := by rw [hx]; omega
          have hnx := fun ty => Lib.run_next_any_at (P := Tryz.prog) wr w'.heap.size s i ty hit hi
          have hN2 := decode_no s i hi hh HN.out
          have hin := decode_in s i hi hh
          obtain ⟨hd1, hd2⟩ := decode_high s i hi hh
          have hb3 := Lib.below_iterAt hb (Nat.le_refl w'.heap.size) s (i + (Utf8.decode s i).2)
          have hit3 := Lib.iterAt_heap wr w'.heap.size s i (i + (Utf8.decode s i).2) hit
          have HR := Lib.hid (fun w1 => indexRune_c ((Utf8.decode s i).1 : Int) (by omega) w1)
          clear hx hxl hh hb hit HN
          generalize Utf8.decode s i = D at *
          generalize wr.iterAt w'.heap.size s (i + D.2) = w3 at *
          go_wp2_with fail
          refine (HR.out _).mono ?_
          rintro e w2 ⟨rfl, hb4⟩
          have hit4 : w2.heap[w'.heap.size]? = some (.stringIter s (i + D.2)) := by
            rw [hb4.block _ (by have := (Array.getElem?_eq_some_iff.1 hit3).1; exact this)]; exact hit3
          have hb5 := on hb3 hb4
          clear hb3 hb4 hit3 hnx
          go_wp2
          go_roundg g
          case measure => omega
          case rel => exact ⟨i + D.2, by omega, hin, hN2, hb5, hit4⟩
    · have hnx := fun ty => Lib.run_next_end_at (P := Tryz.prog) wr w'.heap.size s i ty hit hi
      clear hit
      go_wp2
      go_ret
      refine ⟨ret_i64 ?_, hb⟩
      rw [Lib.indexAny_none]
      intro j b hj hjb
      exact HN.out j b (by rw [← Lib.size_eq] at hj; omega) hjb
theorem indexTens_c (s : ByteArray) (hs : s.size < 4294967281) (w : World) :
    Calls Tryz.prog 135 #[.string s, .string ⟨#[48, 49, 50, 51, 52, 53, 54, 55, 56, 57]⟩] w fun e w' => e = .returned (.int .i64 (Lib.indexAny s.data.toList tens)) ∧ Below w.heap.size w w' := by
  by_cases h8 : s.size ≤ 8
  · exact indexTens_short s h8 w
  · refine (Tryz.strings_IndexAny_long (zero_of_info (n := 256) (by kernel_rfl)).1 s tensB w (by rw [tensB_size]; omega) (by omega) hs (by rw [tensB_size]; omega) (fun j b hb => tens_ascii b (List.mem_of_getElem? hb))).mono fun e w' ⟨h1, h2⟩ => ⟨h1, ?_⟩
    rw [h2]
    exact below2 _ _ _
end Go.Proofs.YtmlmanlcomfhbaaGreatDoor.Addr
namespace Go.Proofs.YtmlmanlcomfhbaaGreatDoor.Kit
open Go.RowKit

/-- what stands ahead of the first byte c, and what stands behind it -/
def cutAt (c : UInt8) : List UInt8 → Option (List UInt8 × List UInt8)
  | [] => none
  | x :: r => if x = c then some ([], r) else (cutAt c r).map fun p => (x :: p.1, p.2)
theorem cutAt_index (c : UInt8) (l : List UInt8) : (Lib.indexByte l c = -1 ∧ cutAt c l = none) ∨ ∃ i : Nat, Lib.indexByte l c = i ∧ i + 1 ≤ l.length ∧ cutAt c l = some (l.take i, l.drop (i + 1)) := by
  induction l with
  | nil => exact .inl ⟨rfl, rfl⟩
  | cons x r ih =>
    unfold Lib.indexByte cutAt
    by_cases hc : x = c
    · subst hc
      exact .inr ⟨0, by simp, by simp, by simp⟩
    · have hb : (x == c) = false := by simpa using hc
      rcases ih with ⟨h1, h2⟩ | ⟨i, h1, h2, h3⟩
      · exact .inl ⟨by simp [hb, h1], by simp [hc, h2]⟩
      · refine .inr ⟨i + 1, ?_, by simp; omega, by simp [hc, h3]⟩
        rw [h1]
        have : ((i : Int) == -1) = false := by simp
        simp [hb, this]
theorem cutAt_none {c : UInt8} {w : List UInt8} (h : c ∉ w) : cutAt c w = none := by
  induction w with
  | nil => rfl
  | cons x r ih =>
    unfold cutAt
    rw [if_neg (fun e => h (by simp [e])), ih fun hb => h (by simp [hb])]
    rfl
theorem cutAt_some {c : UInt8} {w : List UInt8} (r : List UInt8) (h : c ∉ w) : cutAt c (w ++ c :: r) = some (w, r) := by
  induction w with
  | nil => simp [cutAt]
  | cons x y ih =>
    rw [List.cons_append]
    unfold cutAt
    rw [if_neg (fun e => h (by simp [e])), ih fun hb => h (by simp [hb])]
    rfl
theorem of_cutAt {c : UInt8} {l a b : List UInt8} (h : cutAt c l = some (a, b)) : l = a ++ c :: b ∧ c ∉ a := by
  induction l generalizing a b with
  | nil => simp [cutAt] at h
  | cons x r ih =>
    unfold cutAt at h
    by_cases hc : x = c
    · simp only [hc, if_true, Option.some.injEq, Prod.mk.injEq] at h
      obtain ⟨rfl, rfl⟩ := h
      simp [hc]
    · simp only [hc, if_false, Option.map_eq_some_iff] at h
      obtain ⟨⟨p, q⟩, h1, h2⟩ := h
      simp only [Prod.mk.injEq] at h2
      obtain ⟨rfl, rfl⟩ := h2
      obtain ⟨h3, h4⟩ := ih h1
      exact ⟨by rw [h3]; rfl, by simp only [List.mem_cons, not_or]; exact ⟨fun e => hc e.symm, h4⟩⟩

set_option maxRecDepth 100000 in
set_option maxHeartbeats 400000 in
theorem lcutB_hit (s : ByteArray) (c : UInt8) (i : Nat) (hi : Lib.indexByte s.data.toList c = i) (hr : i + 1 ≤ s.size) (hs : s.size ≤ 9223372036854775807) (w : World) :
    Calls Tryz.prog 76 #[.string s, .string ⟨#[c]⟩] w fun e w' => e = .returned (.tuple #[.string (s.extract 0 i), .string (s.extract (i + 1) s.size), .bool true]) ∧ Below w.heap.size w w' := by
  have HI := Lib.hid hi
  clear hi
  have c1 : (0 : Int) ≤ ↑i := by omega
  have c2 : (↑i : Int) ≤ ↑s.size := by omega
  have c3 : (0 : Int) ≤ ↑i + 1 := by omega
  have c4 : (↑i + 1 : Int) ≤ ↑s.size := by omega
  go_enter Tryz.func76, Tryz.ntmps76
  go_wp2_with (go_at_call 99; refine (Tryz.stringslite_Index_one s c _).mono ?_; rintro e w' ⟨rfl, rfl⟩; rw [HI.out])
  go_region
  all_goals (try go_wp2)
  all_goals go_ret3
  all_goals exact ⟨rfl, drew_below (n := 1) rfl⟩
set_option maxRecDepth 100000 in
set_option maxHeartbeats 400000 in
theorem lcutB_miss (s : ByteArray) (c : UInt8) (hi : Lib.indexByte s.data.toList c = -1) (w : World) :
    Calls Tryz.prog 76 #[.string s, .string ⟨#[c]⟩] w fun e w' => e = .returned (.tuple #[.string s, .string ⟨#[]⟩, .bool false]) ∧ Below w.heap.size w w' := by
  have HI := Lib.hid hi
  clear hi
  go_enter Tryz.func76, Tryz.ntmps76
  go_wp2_with (go_at_call 99; refine (Tryz.stringslite_Index_one s c _).mono ?_; rintro e w' ⟨rfl, rfl⟩; rw [HI.out])
  go_ret3
  exact ⟨rfl, Below.refl _ _⟩
/-- how the cut goes, in lists -/
def CutsAt (c : UInt8) (l a b : List UInt8) (f : Bool) : Prop := (cutAt c l = some (a, b) ∧ f = true) ∨ (cutAt c l = none ∧ a = l ∧ b = [] ∧ f = false)
def CutsEnd (c : UInt8) (l : List UInt8) (w : World) (e : Ending) (w' : World) : Prop :=
  ∃ sa sb f, e = .returned (.tuple #[.string sa, .string sb, .bool f]) ∧ CutsAt c l sa.data.toList sb.data.toList f ∧ Below w.heap.size w w'
theorem lcutB_c (s : ByteArray) (c : UInt8) (hs : s.size ≤ 9223372036854775807) (w : World) :
    Calls Tryz.prog 76 #[.string s, .string ⟨#[c]⟩] w (CutsEnd c s.data.toList w) := by
  rcases cutAt_index c s.data.toList with ⟨h1, h2⟩ | ⟨i, h1, h2, h3⟩
  · exact (lcutB_miss s c h1 w).mono fun e w' ⟨he, hw⟩ => ⟨_, _, _, he, .inr ⟨h2, rfl, rfl, rfl⟩, hw⟩
  · rw [← Lib.size_eq] at h2
    refine (lcutB_hit s c i h1 h2 hs w).mono fun e w' ⟨he, hw⟩ => ⟨_, _, _, he, .inl ⟨?_, rfl⟩, hw⟩
    rw [h3, Lib.extract_eq, Lib.extract_eq, Lib.size_eq]
    simp only [List.drop_zero, Nat.sub_zero]
    rw [List.take_of_length_le (l := List.drop (i + 1) s.data.toList) (by simp)]
set_option maxRecDepth 100000 in
set_option maxHeartbeats 400000 in
theorem cutB_c (s : ByteArray) (c : UInt8) (hs : s.size ≤ 9223372036854775807) (w : World) :
    Calls Tryz.prog 54 #[.string s, .string ⟨#[c]⟩] w (CutsEnd c s.data.toList w) := by
  go_enter Tryz.func54, Tryz.ntmps54
  go_wp2_with (go_at_call 76; refine (lcutB_c s c hs _).mono ?_; rintro e w' ⟨sa, sb, f, rfl, hc, hw⟩)
  go_ret3
  exact ⟨_, _, _, rfl, hc, hw⟩
end Go.Proofs.YtmlmanlcomfhbaaGreatDoor.Kit
