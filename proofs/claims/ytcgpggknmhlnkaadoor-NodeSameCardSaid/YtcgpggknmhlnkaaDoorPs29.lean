/- A text has tokens, or a byte at which none begins; how great all of it is. No function of the program is named here.
   What strconv.Itoa answers, at every int. Its condition: the library's table of powers of ten reads as it is laid.
   What strconv.Atoi answers, at every text of at most 2^48 bytes: the number, or an error that is not nil. Its condition: the library's two sentinels hold values of an interface.
   What the program's leading, split, size, meant, Read, Lead answer (over the landed text of package digits): for every text below 2^47 bytes.
   What the program's Text and Parse answer (over the landed text of package digits): for every number of 64 bits, and every text below 2^47 bytes.
   What the reference's Divide answers: long division bit by bit, 128 steps. -/
import Derived.Test.YtcgpggknmhlnkaaDoorPs28
import Derived.Test.YtcgpggknmhlnkaaDoorPs03
import Derived.Test.YtcgpggknmhlnkaaDoorPs13
import Derived.WalkSmall
import Derived.WalkKit
import Derived.Lib.AtoiErrMem
import Derived.Test.YtcgpggknmhlnkaaDoorPs21
import Derived.Lib.QuietBelow
import Derived.Test.YtcgpggknmhlnkaaDoorPs19
import Derived.BigRegion
import Derived.BigQuiet
import Derived.Deep.QuietTactic
namespace Go.Proofs.YtcgpggknmhlnkaaDoor.Lex
open Dec Dig
open Val (quoteL quoteL_skip quoteL_mark)
theorem lead_size {l : List UInt8} {n : Int} {m : Nat} (h : leadD l = (n, m, true)) : 1 ≤ m ∧ m ≤ l.length := by
  have hsplit : l = wholeL 30 l ++ restL 30 l := (List.take_append_drop _ _).symm
  unfold leadD at h
  generalize wholeL 30 l = W at *
  generalize restL 30 l = R at *
  by_cases hk0 : ¬ (meantD false W (partR R)).2 = true
  · rw [if_neg hk0] at h; simp at h
  have hk : (meantD false W (partR R)).2 = true := Classical.not_not.1 hk0
  rw [if_pos hk] at h
  simp only [Prod.mk.injEq, and_true] at h
  obtain ⟨_, h2⟩ := h
  have hW : W ≠ [] := fun e => by rw [e, meantD_nil] at hk; simp at hk
  have hW1 : 1 ≤ W.length := List.length_pos_iff.2 hW
  rw [hsplit, List.length_append]
  unfold sizeL at h2
  split at h2
  · omega
  · rename_i hp
    have hl : (partR R).length + 1 ≤ R.length := by
      cases R with
      | nil => exact absurd rfl hp
      | cons c R2 =>
        by_cases hc : c = 46
        · subst hc
          rw [partR_point, List.length_take, List.length_cons]
          omega
        · exact absurd (partR_odd (by simpa using hc)) hp
    omega
theorem quote_ge : ∀ x : List UInt8, x.length ≤ (quoteL x).length
  | [] => Nat.le_refl _
  | b :: x => by
    have := quote_ge x
    by_cases hb : b = 34
    · rw [hb, quoteL_mark]; simp only [List.length_cons]; omega
    · rw [quoteL_skip hb]; simp only [List.length_cons]; omega
theorem tok_size {l : List UInt8} {k : Int} {t : List UInt8} {n : Int} {m : Nat} (h : tokAt l = some (k, t, n, m)) : (1 ≤ m ∧ m ≤ l.length) ∧ t.length ≤ l.length ∧ 0 ≤ n ∧ n ≤ 9223372036854775807 := by
  cases l with
  | nil => cases h
  | cons b r =>
    unfold tokAt at h
    dsimp only at h
    by_cases h1 : isD b = true
    · rw [if_pos h1] at h
      by_cases h2 : (leadD (b :: r)).2.2 = true
      · rw [if_pos h2] at h
        simp only [Option.some.injEq, Prod.mk.injEq] at h
        obtain ⟨_, rfl, h3, h4⟩ := h
        have e : leadD (b :: r) = (n, m, true) := by rw [← h3, ← h4, ← h2]
        exact ⟨lead_size e, Nat.zero_le _, lead_fits e⟩
      · rw [if_neg h2] at h; cases h
    rw [if_neg h1] at h
    by_cases h3 : b = 34
    · rw [if_pos h3] at h
      cases hm : markL r with
      | none => rw [hm] at h; cases h
      | some p =>
        obtain ⟨x, j⟩ := p
        rw [hm] at h
        simp only [Option.map_some, Option.some.injEq, Prod.mk.injEq] at h
        obtain ⟨_, rfl, rfl, rfl⟩ := h
        obtain ⟨g1, g2, _, g4, _⟩ := mark_facts _ r (Nat.le_refl _) x j hm
        have g5 := congrArg List.length g4
        rw [List.length_take, List.length_append] at g5
        have g6 := quote_ge x
        refine ⟨⟨by omega, by rw [List.length_cons]; omega⟩, by rw [List.length_cons]; omega, by decide, by decide⟩
    rw [if_neg h3] at h
    by_cases h4 : upB b = true
    · rw [if_pos h4] at h
      simp only [Option.some.injEq, Prod.mk.injEq] at h
      obtain ⟨_, rfl, rfl, rfl⟩ := h
      have hw : wordB b = true := by unfold wordB; rw [h4]; rfl
      exact ⟨⟨by rw [wordN_in hw]; omega, word_le _⟩, by rw [List.length_take]; omega, by decide, by decide⟩
    rw [if_neg h4] at h
    by_cases h5 : signN (b :: r) = 0
    · rw [if_pos h5] at h; cases h
    · rw [if_neg h5] at h
      simp only [Option.some.injEq, Prod.mk.injEq] at h
      obtain ⟨_, rfl, rfl, rfl⟩ := h
      exact ⟨⟨by omega, sign_le _⟩, by rw [List.length_take]; omega, by decide, by decide⟩
/-- how great tokens are -/
theorem LexO.fits {l : List UInt8} {a : Nat} {T : List Tok} (h : LexO l a T) : T.length ≤ l.length + 1 ∧ ∀ x ∈ T, (1 ≤ x.k ∧ x.k ≤ 5) ∧ x.at' ≤ a + l.length ∧ x.t.length ≤ l.length ∧ 0 ≤ x.n ∧ x.n ≤ 9223372036854775807 := by
  induction h with
  | done a => exact ⟨Nat.le_refl _, fun x hx => by rw [List.mem_singleton.1 hx]; exact ⟨⟨by show (1 : Int) ≤ 5; decide, by show (5 : Int) ≤ 5; decide⟩, Nat.le_refl _, Nat.le_refl _, by show (0 : Int) ≤ 0; decide, by show (0 : Int) ≤ 9223372036854775807; decide⟩⟩
  | blank h ih =>
    refine ⟨by rw [List.length_cons]; omega, fun x hx => ?_⟩
    obtain ⟨g1, g2, g3, g4⟩ := ih.2 x hx
    exact ⟨g1, by rw [List.length_cons]; omega, by rw [List.length_cons]; omega, g4⟩
  | @tok l a k t n m T h0 h1 h ih =>
    obtain ⟨⟨hm1, hm2⟩, ht, hn⟩ := tok_size h1
    have hk := tok_kind h1
    rw [List.length_drop] at ih
    refine ⟨by rw [List.length_cons]; omega, fun x hx => ?_⟩
    rcases List.mem_cons.1 hx with rfl | hx
    · exact ⟨⟨hk.1, by dsimp only; omega⟩, by dsimp only; omega, ht, hn⟩
    · obtain ⟨g1, g2, g3, g4⟩ := ih.2 x hx
      exact ⟨g1, by omega, by omega, g4⟩
end Go.Proofs.YtcgpggknmhlnkaaDoor.Lex
namespace Go.Proofs.YtcgpggknmhlnkaaDoor.Kit
open Go.RowKit
/-- the table of powers of ten reads as it is laid -/
def Pows (w : World) : Prop := Lib.TabIs Tryd.prog w "internal/strconv.uint64pow10" .u64 Lib.pow10Tab
theorem Pows.grown {w w' : World} (h : Pows w) (hb : Below w.heap.size w w') : Pows w' := by
  have hg : Tryd.prog.globalNamed "internal/strconv.uint64pow10" = some 3 := by kernel_rfl
  have hc := Lib.TabIs.cell h hg 0 (by rw [Lib.pow10Tab_length]; omega)
  exact var?_below hb hg (block_lt_of_cell hc) h
end Go.Proofs.YtcgpggknmhlnkaaDoor.Kit
namespace Go.Proofs.YtcgpggknmhlnkaaDoor.Cats
open Go.RowKit
/-- what lies in the two sentinels -/
def Errs (w : World) : Prop := (∃ ev, w.cell? ⟨1, 0, none⟩ = some ev ∧ (ev = .nilIface ∨ ∃ te pe, ev = .iface te pe)) ∧ (∃ ev, w.cell? ⟨2, 0, none⟩ = some ev ∧ (ev = .nilIface ∨ ∃ te pe, ev = .iface te pe))
theorem Errs.grown {w w' : World} (h : Errs w) (hb : Below w.heap.size w w') : Errs w' := by
  obtain ⟨⟨e1, h1, k1⟩, ⟨e2, h2, k2⟩⟩ := h
  exact ⟨⟨e1, (hb.cell (block_lt_of_cell h1)).trans h1, k1⟩, ⟨e2, (hb.cell (block_lt_of_cell h2)).trans h2, k2⟩⟩
/-- the number of a text; none: there is an error -/
def atoiO (l : List UInt8) : Option Int := match Lib.atoiAll l with | .ok v => some v | _ => none
def AtoiEnd (l : List UInt8) (w : World) (e : Ending) (w' : World) : Prop :=
  ((∃ v, atoiO l = some v ∧ e = .returned (.tuple #[.int .i64 v, .nilIface])) ∨ (atoiO l = none ∧ ∃ x t p, e = .returned (.tuple #[.int .i64 x, .iface t (.pointer (some p))]))) ∧ Below w.heap.size w w'
theorem atoi_c (s : ByteArray) (hlim : s.size ≤ 281474976710656) (w : World) (hE : Errs w) : Calls Tryd.prog 47 #[.string s] w (AtoiEnd s.data.toList w) := by
  obtain ⟨⟨e1, h1, k1⟩, ⟨e2, h2, k2⟩⟩ := hE
  cases h : Lib.atoiAll s.data.toList with
  | ok v =>
    refine (Tryd.strconv_Atoi_ok s (by omega) v h w).mono fun e w' ⟨he, hw⟩ => ⟨.inl ⟨v, by simp [atoiO, h], he⟩, ?_⟩
    rcases hw with rfl | ⟨t, rfl⟩
    · exact Below.refl _ _
    · exact Lib.bytesWorld_below _ _ _
  | range =>
    exact (Tryd.strconv_Atoi_range s hlim h e2 w h2 k2).mono fun e w' ⟨N, he, _, _, hb⟩ => ⟨.inr ⟨by simp [atoiO, h], _, _, _, he⟩, hb⟩
  | _ =>
    exact (Tryd.strconv_Atoi_syntax s hlim h e1 w h1 k1).mono fun e w' ⟨N, he, _, _, hb⟩ => ⟨.inr ⟨by simp [atoiO, h], _, _, _, he⟩, hb⟩
end Go.Proofs.YtcgpggknmhlnkaaDoor.Cats
namespace Go.Proofs.YtcgpggknmhlnkaaDoor.Dig
open Go.RowKit Kit Dec
/-- what the library's variables hold -/
def Libs (w : World) : Prop := Cats.Errs w ∧ Pows w
theorem Libs.grown {w w' : World} (h : Libs w) (hb : Below w.heap.size w w') : Libs w' := ⟨h.1.grown hb, h.2.grown hb⟩
theorem len (t : ByteArray) : t.data.toList.length = t.size := (Lib.size_eq t).symm
end Go.Proofs.YtcgpggknmhlnkaaDoor.Dig
namespace Go.Proofs.YtcgpggknmhlnkaaDoor.Dig
open Go.RowKit Kit Dec
theorem toList_eq (a b : ByteArray) : (a.toList == b.toList) = decide (a.data.toList = b.data.toList) := by
  rw [Lib.toList_data, Lib.toList_data]
  by_cases h : a.data.toList = b.data.toList
  · rw [decide_eq_true h, h]; simp
  · rw [decide_eq_false h]; simpa using h
end Go.Proofs.YtcgpggknmhlnkaaDoor.Dig
namespace Go.Proofs.YtcgpggknmhlnkaaDoor.Dec
open Go.RowKit Kit Reg
/-- a step's numbers -/
structure Step (by_ hi lo q r : Nat) (ok : Bool) (bit hi2 lo2 q2 r2 : Nat) : Prop where
  b : (hi : Int) / 9223372036854775808 = (bit : Int)
  h : IntKind.u64.wrap (IntKind.u64.wrap ((hi : Int) * 2) + IntKind.u64.wrap ((lo : Int) / 9223372036854775808)) = (hi2 : Int)
  l : IntKind.u64.wrap ((lo : Int) * 2) = (lo2 : Int)
  q : IntKind.u64.wrap ((q : Int) * 2) = (q2 : Int)
  r : (r : Int) * 2 + (bit : Int) = (r2 : Int)
  rl : r2 < 18446744073709551616
  ql : q2 ≤ 18446744073709551614
theorem DivAt.go {N by_ i hi lo q r : Nat} {ok : Bool} (hb : 0 < by_) (hb2 : by_ ≤ 9223372036854775808) (hlt : i < 128) (h : DivAt N by_ i hi lo q r ok) :
    ∃ bit hi2 lo2 q2 r2 : Nat, Step by_ hi lo q r ok bit hi2 lo2 q2 r2 ∧
      (by_ ≤ r2 → DivAt N by_ (i + 1) hi2 lo2 (q2 + 1) (r2 - by_) (ok && decide (q < 9223372036854775808))) ∧
      (r2 < by_ → DivAt N by_ (i + 1) hi2 lo2 q2 r2 (ok && decide (q < 9223372036854775808))) := by
  obtain ⟨h1, h2⟩ := h.step hb hb2 hlt
  obtain ⟨bit, hbit⟩ : ∃ bit, hi / 9223372036854775808 = bit := ⟨_, rfl⟩
  obtain ⟨r2, hr2⟩ : ∃ r2, r * 2 + bit = r2 := ⟨_, rfl⟩
  have hhi := h.hiU
  have hlo := h.loU
  have hq : q * 2 % 18446744073709551616 + 1 < 18446744073709551616 := by omega
  rw [hbit, hr2] at h1 h2
  refine ⟨bit, (hi * 2 + lo / 9223372036854775808) % 18446744073709551616, lo * 2 % 18446744073709551616, q * 2 % 18446744073709551616, r2, ⟨by omega, ?_, ?_, ?_, by omega, by omega, by omega⟩, ?_, ?_⟩
  · rw [IntKind.wrap_u64, IntKind.wrap_u64, IntKind.wrap_u64]; omega
  · rw [IntKind.wrap_u64]; omega
  · rw [IntKind.wrap_u64]; omega
  · intro hc; rw [if_pos hc, if_pos hc] at h2; exact h2
  · intro hc; rw [if_neg (by omega), if_neg (by omega)] at h2; exact h2
end Go.Proofs.YtcgpggknmhlnkaaDoor.Dec
