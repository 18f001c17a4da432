/- Package lex's leaves. Written by wip/gen21go.py. -/
import Derived.Test.YtmoednmgmmgjeaaDoorLexSigns
import Derived.Test.YtmoednmgmmgjeaaDoorLexRest
import Derived.Test.YtmoednmgmmgjeaaDoorLexMark
import Derived.Test.YtmoednmgmmgjeaaDoorDigRead
import Derived.Test.YtmoednmgmmgjeaaDoorShelf
namespace Go.Proofs.YtmoednmgmmgjeaaDoor.Lex
open Go.RowKit Kit Reg Dec Dig
open Val (quoteL)

/-- the cells of the table of signs -/
def signCells : List Value := signsP.map fun x => .string ⟨x.toArray⟩
def Signs (w : World) : Prop := ∀ i x, signCells[i]? = some x → w.cell? ⟨0, i, none⟩ = some x
theorem Signs.grown {w w' : World} (h : Signs w) (hb : Below w.heap.size w w') : Signs w' := fun i x hx => kept hb (h i x hx)
/-- what the library's and the program's variables hold -/
def LLibs (w : World) : Prop := (Libs w ∧ Signs w) ∧ ∃ m, w.cell? ⟨2, 0, none⟩ = some (.int .i64 m)
theorem LLibs.grown {w w' : World} (h : LLibs w) (hb : Below w.heap.size w w') : LLibs w' := ⟨⟨h.1.1.grown hb, h.1.2.grown hb⟩, h.2.elim fun m hm => ⟨m, kept hb hm⟩⟩
theorem prefix_c (t p : ByteArray) (b : Bool) (h : decide (t.data.toList.take p.size = p.data.toList) = b) (w : World) : Calls Tryd.prog 13 #[.string t, .string p] w fun e w' => e = .returned (.bool b) ∧ w = w' :=
  (Tryd.strings_HasPrefix t p w).mono fun e w' ⟨he, hw⟩ => ⟨by rw [he, prefix_iff, len, h], hw.symm⟩
theorem at_sign (w : World) : ∀ (k : Nat) (p : List UInt8), signsP[k]? = some p → (Instr.index 52 (.agg #[.string ⟨#[60, 62]⟩, .string ⟨#[60, 61]⟩, .string ⟨#[62, 61]⟩, .string ⟨#[35, 82, 69, 70]⟩, .string ⟨#[43]⟩, .string ⟨#[45]⟩, .string ⟨#[42]⟩, .string ⟨#[47]⟩, .string ⟨#[94]⟩, .string ⟨#[38]⟩, .string ⟨#[61]⟩, .string ⟨#[60]⟩, .string ⟨#[62]⟩, .string ⟨#[40]⟩, .string ⟨#[41]⟩, .string ⟨#[44]⟩, .string ⟨#[58]⟩]) (.int .i64 (k : Int))).run Tryd.prog w = .ok (.string ⟨p.toArray⟩) w
  | 0, p, h => by
    obtain rfl : ([60, 62] : List UInt8) = p := Option.some.inj h
    kernel_rfl
  | 1, p, h => by
    obtain rfl : ([60, 61] : List UInt8) = p := Option.some.inj h
    kernel_rfl
  | 2, p, h => by
    obtain rfl : ([62, 61] : List UInt8) = p := Option.some.inj h
    kernel_rfl
  | 3, p, h => by
    obtain rfl : ([35, 82, 69, 70] : List UInt8) = p := Option.some.inj h
    kernel_rfl
  | 4, p, h => by
    obtain rfl : ([43] : List UInt8) = p := Option.some.inj h
    kernel_rfl
  | 5, p, h => by
    obtain rfl : ([45] : List UInt8) = p := Option.some.inj h
    kernel_rfl
  | 6, p, h => by
    obtain rfl : ([42] : List UInt8) = p := Option.some.inj h
    kernel_rfl
  | 7, p, h => by
    obtain rfl : ([47] : List UInt8) = p := Option.some.inj h
    kernel_rfl
  | 8, p, h => by
    obtain rfl : ([94] : List UInt8) = p := Option.some.inj h
    kernel_rfl
  | 9, p, h => by
    obtain rfl : ([38] : List UInt8) = p := Option.some.inj h
    kernel_rfl
  | 10, p, h => by
    obtain rfl : ([61] : List UInt8) = p := Option.some.inj h
    kernel_rfl
  | 11, p, h => by
    obtain rfl : ([60] : List UInt8) = p := Option.some.inj h
    kernel_rfl
  | 12, p, h => by
    obtain rfl : ([62] : List UInt8) = p := Option.some.inj h
    kernel_rfl
  | 13, p, h => by
    obtain rfl : ([40] : List UInt8) = p := Option.some.inj h
    kernel_rfl
  | 14, p, h => by
    obtain rfl : ([41] : List UInt8) = p := Option.some.inj h
    kernel_rfl
  | 15, p, h => by
    obtain rfl : ([44] : List UInt8) = p := Option.some.inj h
    kernel_rfl
  | 16, p, h => by
    obtain rfl : ([58] : List UInt8) = p := Option.some.inj h
    kernel_rfl
  | k + 17, p, h => by
    have := (List.getElem?_eq_some_iff.1 h).1
    exact absurd (show k + 17 < 17 from this) (by omega)
set_option maxRecDepth 100000 in
set_option maxHeartbeats 400000 in
theorem isdigit_c (b : UInt8) (c : Bool) (hc : isD b = c) (w : World) : Calls Tryd.prog 9 #[.int .u8 (b.toNat : Int)] w fun e w' => e = .returned (.bool c) ∧ w = w' := by
  have hu := bool_of isD_iff hc
  clear hc
  by_cases h1 : 48 ≤ b.toNat
  · have d1 : decide (48 ≤ (b.toNat : Int)) = true := decide_eq_true (by omega)
    have d2 : decide ((b.toNat : Int) ≤ 57) = c := by
      rcases hu with ⟨h, rfl⟩ | ⟨h, rfl⟩
      · exact decide_eq_true (by omega)
      · exact decide_eq_false (fun e => h ⟨h1, by omega⟩)
    clear hu h1
    go_enter Tryd.func9, Tryd.ntmps9
    go_wp2
    go_ret
    exact ⟨rfl, rfl⟩
  · have d1 : decide (48 ≤ (b.toNat : Int)) = false := decide_eq_false (by omega)
    obtain rfl : c = false := hu.elim (fun h => absurd h.1.1 h1) (fun h => h.2)
    clear hu h1
    go_enter Tryd.func9, Tryd.ntmps9
    go_wp2
    go_ret
    exact ⟨rfl, rfl⟩
set_option maxRecDepth 100000 in
set_option maxHeartbeats 400000 in
theorem isword_c (b : UInt8) (c : Bool) (hc : upB b = c) (w : World) : Calls Tryd.prog 11 #[.int .u8 (b.toNat : Int)] w fun e w' => e = .returned (.bool c) ∧ w = w' := by
  have hu := bool_of (up_iff b) hc
  clear hc
  by_cases h1 : 65 ≤ b.toNat
  · have d1 : decide (65 ≤ (b.toNat : Int)) = true := decide_eq_true (by omega)
    by_cases h2 : b.toNat ≤ 90
    · have d2 : decide ((b.toNat : Int) ≤ 90) = true := decide_eq_true (by omega)
      obtain rfl : c = true := hu.elim (fun h => h.2) (fun h => absurd (.inl ⟨h1, h2⟩) h.1)
      clear hu h1 h2
      go_enter Tryd.func11, Tryd.ntmps11
      go_wp2
      go_ret
      exact ⟨rfl, rfl⟩
    · have d2 : decide ((b.toNat : Int) ≤ 90) = false := decide_eq_false (by omega)
      have d3 : ((b.toNat : Int) == 36) = false := beq_eq_false_iff_ne.2 (by omega)
      obtain rfl : c = false := hu.elim (fun h => by omega) (fun h => h.2)
      clear hu h1 h2
      go_enter Tryd.func11, Tryd.ntmps11
      go_wp2
      go_ret
      exact ⟨rfl, rfl⟩
  · have d1 : decide (65 ≤ (b.toNat : Int)) = false := decide_eq_false (by omega)
    have d3 : ((b.toNat : Int) == 36) = c := by
      rcases hu with ⟨h, rfl⟩ | ⟨h, rfl⟩
      · exact beq_iff_eq.2 (by omega)
      · exact beq_eq_false_iff_ne.2 (fun e => h (.inr (by omega)))
    clear hu h1
    go_enter Tryd.func11, Tryd.ntmps11
    go_wp2
    go_ret
    exact ⟨rfl, rfl⟩
theorem all_snoc {l : List UInt8} {k : Nat} {b : UInt8} (h : (l.take k).all plainB = true) (hb : l[k]? = some b) : (l.take (k + 1)).all plainB = plainB b := by
  rw [List.take_add_one, hb, List.all_append, h]
  simp
theorem all_bad {l : List UInt8} {k : Nat} {b : UInt8} (hb : l[k]? = some b) (hp : plainB b = false) : l.all plainB = false := by
  rw [List.all_eq_false]
  exact ⟨b, List.mem_of_getElem? hb, by rw [hp]; exact Bool.noConfusion⟩
set_option maxRecDepth 100000 in
set_option maxHeartbeats 2000000 in
theorem plain_c (t : ByteArray) (ht : t.size ≤ 100000) (c : Bool) (hc : t.data.toList.all plainB = c) (w : World) : Calls Tryd.prog 24 #[.string t] w fun e w' => e = .returned (.bool c) ∧ w = w' := by
  have HK := Lib.hid (fun i (hi : i < t.size) => Lib.data_getElem? t i hi)
  have HT := Lib.hid (len t)
  have HC := Lib.hid hc
  clear hc
  go_enter Tryd.func24, Tryd.ntmps24
  go_wp2_with fail
  go_loopw [6] (fun x wr => ∃ k : Nat, k ≤ t.size ∧ x = .int .i64 k ∧ Hid ((t.data.toList.take k).all plainB = true) ∧ w = wr) (fun x _ => t.size - (intOf x).toNat)
  case atStart => exact ⟨0, Nat.zero_le _, rfl, Lib.hid rfl, rfl⟩
  case round =>
    obtain ⟨k, hk, rfl, HA, rfl⟩ := hrel
    by_cases hlt : k < t.size
    · have hb := HK.out k hlt
      cases hp : plainB t[k] with
      | true =>
        have HN : Hid ((t.data.toList.take (k + 1)).all plainB = true) := Lib.hid (by rw [all_snoc HA.out hb, hp])
        obtain ⟨h1, h2⟩ := (plain_iff t[k]).1 hp
        have d1 : decide ((t[k].toNat : Int) < 32) = false := decide_eq_false (by omega)
        have d2 : ((t[k].toNat : Int) == 127) = false := beq_eq_false_iff_ne.2 (by omega)
        clear hb hp h1 h2 HK HT HC HA
        go_wp2_with fail
        go_roundw
        case rel => exact ⟨k + 1, by omega, by go_num, HN, by first | rfl | trivial⟩
        case measure => simp [intOf]; omega
      | false =>
        obtain rfl : c = false := by rw [← HC.out]; exact all_bad hb hp
        by_cases h1 : t[k].toNat < 32
        · have d1 : decide ((t[k].toNat : Int) < 32) = true := decide_eq_true (by omega)
          clear hb hp h1 HK HT HC HA
          go_wp2_with fail
          go_ret
          exact ⟨rfl, rfl⟩
        · have d1 : decide ((t[k].toNat : Int) < 32) = false := decide_eq_false (by omega)
          have d2 : ((t[k].toNat : Int) == 127) = true := by
            refine beq_iff_eq.2 ?_
            have := fun (e : t[k].toNat ≠ 127) => (plain_iff t[k]).2 ⟨by omega, e⟩
            by_cases h3 : t[k].toNat = 127
            · omega
            · rw [this h3] at hp; cases hp
          clear hb hp h1 HK HT HC HA
          go_wp2_with fail
          go_ret
          exact ⟨rfl, rfl⟩
    · obtain rfl : k = t.size := by omega
      have HW : Hid (t.data.toList.all plainB = true) := Lib.hid (by have := HA.out; rwa [List.take_of_length_le (by rw [HT.out]; exact Nat.le_refl _)] at this)
      go_wp2_with fail
      go_ret
      exact ⟨by rw [← HC.out, HW.out]; rfl, rfl⟩
set_option maxRecDepth 100000 in
set_option maxHeartbeats 2000000 in
theorem wordsize_c (t : ByteArray) (ht : t.size ≤ 100000) (w : World) : Calls Tryd.prog 12 #[.string t] w fun e w' => e = .returned (.int .i64 (wordN t.data.toList : Int)) ∧ w = w' := by
  have HUJ := Lib.hid (fun j (hj : j < t.size) b (h : upB t[j] = b) w1 => isword_c t[j] b h w1)
  have HDJ := Lib.hid (fun j (hj : j < t.size) b (h : isD t[j] = b) w1 => isdigit_c t[j] b h w1)
  have HI : Hid (∀ j (hj : j < t.size), (j < wordN t.data.toList → wordB t[j] = true) ∧ (j = wordN t.data.toList → wordB t[j] = false)) := Lib.hid fun j hj =>
    ⟨fun h => word_in _ _ _ h (Lib.data_getElem? t j hj), fun h => word_end _ _ (by rw [← h]; exact Lib.data_getElem? t j hj)⟩
  have hm : wordN t.data.toList ≤ t.size := by have := word_le t.data.toList; rwa [len] at this
  generalize wordN t.data.toList = m at *
  go_enter Tryd.func12, Tryd.ntmps12
  go_wp2_with fail
  go_loopw [3] (fun x wr => ∃ j : Nat, j ≤ m ∧ x = .int .i64 j ∧ w = wr) (fun x _ => t.size - (intOf x).toNat)
  case atStart => exact ⟨0, Nat.zero_le _, rfl, rfl⟩
  case round =>
    obtain ⟨j, hjm, rfl, rfl⟩ := hrel
    by_cases hjt : j < t.size
    · obtain ⟨g1, g2⟩ := HI.out j hjt
      by_cases hin : j < m
      · have g := g1 hin
        unfold wordB at g
        cases hu : upB t[j] with
        | true =>
          clear g1 g2 g
          go_wp2_with fail
          refine ((HUJ.out j hjt true hu) _).mono ?_
          rintro e w1 ⟨rfl, rfl⟩
          go_wp2_with fail
          go_roundw
          case rel => exact ⟨j + 1, by omega, by go_num, by first | rfl | trivial⟩
          case measure => simp [intOf]; omega
        | false =>
          have hd : isD t[j] = true := by rw [hu] at g; simpa using g
          clear g1 g2 g
          go_wp2_with fail
          refine ((HUJ.out j hjt false hu) _).mono ?_
          rintro e w1 ⟨rfl, rfl⟩
          go_wp2_with fail
          refine ((HDJ.out j hjt true hd) _).mono ?_
          rintro e w1 ⟨rfl, rfl⟩
          go_wp2_with fail
          go_roundw
          case rel => exact ⟨j + 1, by omega, by go_num, by first | rfl | trivial⟩
          case measure => simp [intOf]; omega
      · obtain rfl : j = m := by omega
        have g := g2 rfl
        unfold wordB at g
        have hu : upB t[j] = false := (Bool.or_eq_false_iff.1 g).1
        have hd : isD t[j] = false := (Bool.or_eq_false_iff.1 g).2
        clear g1 g2 g
        go_wp2_with fail
        refine ((HUJ.out j hjt false hu) _).mono ?_
        rintro e w1 ⟨rfl, rfl⟩
        go_wp2_with fail
        refine ((HDJ.out j hjt false hd) _).mono ?_
        rintro e w1 ⟨rfl, rfl⟩
        go_wp2_with fail
        go_ret
        exact ⟨rfl, rfl⟩
    · obtain rfl : j = m := by omega
      go_wp2_with fail
      go_ret
      exact ⟨rfl, rfl⟩
set_option maxRecDepth 100000 in
set_option maxHeartbeats 4000000 in
theorem firstsign_c (t : ByteArray) (w : World) (hL : Signs w) : Calls Tryd.prog 15 #[.string t] w fun e w' => ∃ s : ByteArray, e = .returned (.string s) ∧ s.data.toList = t.data.toList.take (signN t.data.toList) ∧ w = w' := by
  have HP := Lib.hid (fun p b h w1 => prefix_c t p b h w1)
  have HF := Lib.hid (findP t.data.toList)
  have g0 := hL 0 _ rfl
  have g1 := hL 1 _ rfl
  have g2 := hL 2 _ rfl
  have g3 := hL 3 _ rfl
  have g4 := hL 4 _ rfl
  have g5 := hL 5 _ rfl
  have g6 := hL 6 _ rfl
  have g7 := hL 7 _ rfl
  have g8 := hL 8 _ rfl
  have g9 := hL 9 _ rfl
  have g10 := hL 10 _ rfl
  have g11 := hL 11 _ rfl
  have g12 := hL 12 _ rfl
  have g13 := hL 13 _ rfl
  have g14 := hL 14 _ rfl
  have g15 := hL 15 _ rfl
  have g16 := hL 16 _ rfl
  clear hL
  rw [← HF.out]
  go_enter Tryd.func15, Tryd.ntmps15
  go_wp2
  clear g0 g1 g2 g3 g4 g5 g6 g7 g8 g9 g10 g11 g12 g13 g14 g15 g16
  go_loopw [6] (fun x wr => ∃ k : Nat, k ≤ 17 ∧ x = .int .i64 k ∧ Hid (∀ j q, j < k → signsP[j]? = some q → t.data.toList.take q.length ≠ q) ∧ w = wr) (fun x _ => 17 - (intOf x).toNat)
  case atStart => exact ⟨0, by omega, rfl, Lib.hid (fun j q h _ => absurd h (by omega)), rfl⟩
  case round =>
    obtain ⟨k, hk, rfl, HJ, rfl⟩ := hrel
    by_cases hlt : k < 17
    · obtain ⟨p, hp⟩ : ∃ p, signsP[k]? = some p := ⟨_, List.getElem?_eq_getElem (show k < 17 from hlt)⟩
      have hi := at_sign w k p hp
      have hPl : (⟨p.toArray⟩ : ByteArray).size = p.length := by rw [← len]
      by_cases hm : t.data.toList.take p.length = p
      · have HC := Lib.hid (HP.out ⟨p.toArray⟩ true (by rw [hPl]; exact decide_eq_true hm))
        have HN := Lib.hid (find_hit HJ.out hp hm)
        clear HP HF HJ hp hm hPl
        go_wp2_with fail
        refine (HC.out _).mono ?_
        rintro e w1 ⟨rfl, rfl⟩
        go_wp2_with fail
        go_ret
        exact ⟨⟨p.toArray⟩, rfl, by rw [HN.out], rfl⟩
      · have HC := Lib.hid (HP.out ⟨p.toArray⟩ false (by rw [hPl]; exact decide_eq_false hm))
        have HN := Lib.hid (none_more HJ.out hp hm)
        clear HP HF HJ hp hm hPl
        go_wp2_with fail
        refine (HC.out _).mono ?_
        rintro e w1 ⟨rfl, rfl⟩
        go_wp2_with fail
        go_roundw
        case rel => exact ⟨k + 1, by omega, by go_num, HN, by first | rfl | trivial⟩
        case measure => simp [intOf]; omega
    · obtain rfl : k = 17 := by omega
      have HN := Lib.hid (find_none (S := signsP) (l := t.data.toList) fun j q hj => HJ.out j q (List.getElem?_eq_some_iff.1 hj).1 hj)
      clear HP HF HJ
      go_wp2_with fail
      go_ret
      exact ⟨⟨#[]⟩, rfl, by rw [HN.out], rfl⟩
/-- how long a text within marks is, with both marks -/
def markedZ : Option Nat → Int
  | some n => ((n + 1 : Nat) : Int)
  | none => 0
set_option maxRecDepth 100000 in
set_option maxHeartbeats 4000000 in
theorem markedsize_c (t : ByteArray) (h1 : 1 ≤ t.size) (ht : t.size ≤ 100000) (w : World) : Calls Tryd.prog 23 #[.string t] w fun e w' => e = .returned (.int .i64 (markedZ (rawL (t.data.toList.drop 1)))) ∧ w = w' := by
  have HP := Lib.hid (fun i p b h w1 => prefix_c (t.extract i t.size) p b h w1)
  have HD := Lib.hid (fun i => ext_drop t i)
  have HK := Lib.hid (fun i (hi : i < t.size) => Lib.data_getElem? t i hi)
  have HG := Lib.hid (fun i (h : 1 ≤ i) => (show (t.data.toList.drop 1)[i - 1]? = t.data.toList[i]? from by rw [List.getElem?_drop]; congr 1; omega))
  have HL : Hid ((t.data.toList.drop 1).length = t.size - 1) := Lib.hid (by rw [List.length_drop, len])
  have HT := Lib.hid (len t)
  generalize t.data.toList.drop 1 = R at *
  go_enter Tryd.func23, Tryd.ntmps23
  go_wp2_with fail
  go_loopw [3] (fun x wr => ∃ i : Nat, 1 ≤ i ∧ i ≤ t.size ∧ x = .int .i64 i ∧ Hid (RawAt R (i - 1)) ∧ w = wr) (fun x _ => t.size - (intOf x).toNat)
  case atStart => exact ⟨1, Nat.le_refl _, h1, rfl, Lib.hid (RawAt.start R), rfl⟩
  case round =>
    obtain ⟨i, hi1, hit, rfl, HR, rfl⟩ := hrel
    by_cases hlt : i < t.size
    · have hb := HK.out i hlt
      have hbR := (HG.out i hi1).trans hb
      have hdr := drop_cons hb
      by_cases h34 : t[i] = 34
      · rw [h34] at hb hbR hdr
        by_cases h2 : i + 1 < t.size ∧ t.data.toList[i + 1]? = some 34
        · obtain ⟨h2, hc⟩ := h2
          have hcR := (HG.out (i + 1) (by omega)).trans hc
          have HC := Lib.hid (HP.out i ⟨#[34, 34]⟩ true (by rw [HD.out, hdr, drop_cons hc]; rfl))
          have HN : Hid (RawAt R (i + 2 - 1)) := Lib.hid (by have := HR.out.two hbR (by rw [show i - 1 + 1 = i + 1 - 1 from by omega]; exact hcR); rwa [show i - 1 + 2 = i + 2 - 1 from by omega] at this)
          clear hb hbR hdr hc hcR HP HD HK HG HL HT HR h34
          go_wp2_with fail
          refine (HC.out _).mono ?_
          rintro e w1 ⟨rfl, rfl⟩
          go_wp2_with fail
          go_roundw
          case rel => exact ⟨i + 2, by omega, by omega, by go_num, HN, by first | rfl | trivial⟩
          case measure => simp [intOf]; omega
        · have hc : t.data.toList[i + 1]? ≠ some 34 := fun e => h2 ⟨by have := (List.getElem?_eq_some_iff.1 e).1; rwa [HT.out] at this, e⟩
          have HC := Lib.hid (HP.out i ⟨#[34, 34]⟩ false (by
            rw [HD.out, hdr]
            refine decide_eq_false fun e => hc ?_
            have e1 : (t.data.toList.drop (i + 1)).take 1 = [34] := (List.cons.inj (show 34 :: (t.data.toList.drop (i + 1)).take 1 = [34, 34] from e)).2
            have e2 := congrArg (·[0]?) e1
            simp only [List.getElem?_take, List.getElem?_drop] at e2
            simpa using e2))
          have HC2 := Lib.hid (HP.out i ⟨#[34]⟩ true (by rw [HD.out, hdr]; rfl))
          have HN : Hid (rawL R = some (i - 1 + 1)) := Lib.hid (HR.out.ends hbR (by rw [show i - 1 + 1 = i + 1 - 1 from by omega, HG.out (i + 1) (by omega)]; exact hc))
          clear hb hbR hdr hc HP HD HK HG HL HT HR h34 h2
          go_wp2_with fail
          refine (HC.out _).mono ?_
          rintro e w1 ⟨rfl, rfl⟩
          go_wp2_with fail
          refine (HC2.out _).mono ?_
          rintro e w1 ⟨rfl, rfl⟩
          go_wp2_with fail
          go_ret
          exact ⟨by rw [HN.out, show markedZ (some (i - 1 + 1)) = (i : Int) + 1 from by show ((i - 1 + 1 + 1 : Nat) : Int) = _; omega]; rfl, rfl⟩
      · have HC := Lib.hid (HP.out i ⟨#[34, 34]⟩ false (by
          rw [HD.out, hdr]
          exact decide_eq_false fun e => h34 (List.cons.inj (show t[i] :: (t.data.toList.drop (i + 1)).take 1 = [34, 34] from e)).1))
        have HC2 := Lib.hid (HP.out i ⟨#[34]⟩ false (by
          rw [HD.out, hdr]
          exact decide_eq_false fun e => h34 (List.cons.inj (show t[i] :: (t.data.toList.drop (i + 1)).take 0 = [34] from e)).1))
        have HN : Hid (RawAt R (i + 1 - 1)) := Lib.hid (by have := HR.out.byte hbR h34; rwa [show i - 1 + 1 = i + 1 - 1 from by omega] at this)
        clear hb hbR hdr HP HD HK HG HL HT HR h34
        go_wp2_with fail
        refine (HC.out _).mono ?_
        rintro e w1 ⟨rfl, rfl⟩
        go_wp2_with fail
        refine (HC2.out _).mono ?_
        rintro e w1 ⟨rfl, rfl⟩
        go_wp2_with fail
        go_roundw
        case rel => exact ⟨i + 1, by omega, by omega, by go_num, HN, by first | rfl | trivial⟩
        case measure => simp [intOf]; omega
    · have HN := Lib.hid (HR.out.out (by rw [HL.out]; omega))
      clear HP HD HK HG HL HT HR
      go_wp2_with fail
      go_ret
      exact ⟨by rw [HN.out]; rfl, rfl⟩
end Go.Proofs.YtmoednmgmmgjeaaDoor.Lex
