/- Package lex's marked: texts within marks. -/
import Derived.Test.YtmoednmgmmgjeaaDoorLexGo
namespace Go.Proofs.YtmoednmgmmgjeaaDoor.Lex
open Go.RowKit Kit Reg Dec Dig
open Val (quoteL)

theorem unquote_c (t : ByteArray) (ht : t.size ≤ 1000) (x : List UInt8) (hx : t.data.toList = quoteL x) (w : World) (hL : LLibs w) : Calls Tryd.prog 17 #[.string t, .string ⟨#[34, 34]⟩, .string ⟨#[34]⟩] w (TextB x w) := by
  obtain ⟨_, m, hm⟩ := hL
  have hc : Lib.countB t ⟨#[34, 34]⟩ ≤ t.size + 1 := by
    have := Lib.count_le t.data.toList [34, 34]
    rw [len] at this
    exact this
  have h2 : (⟨#[34]⟩ : ByteArray).size = 1 := rfl
  refine (Tryd.strings_ReplaceAll t ⟨#[34, 34]⟩ ⟨#[34]⟩ m w (by omega) hm (by decide) (by rw [h2]; omega)).mono fun e w' ⟨he, hb⟩ => ⟨_, he, ?_, hb⟩
  show Lib.replaceAll t.data.toList [34, 34] [34] = _
  rw [hx]
  exact unquote_all x
theorem doquote_c (t : ByteArray) (ht : t.size ≤ 1000) (w : World) (hL : LLibs w) : Calls Tryd.prog 17 #[.string t, .string ⟨#[34]⟩, .string ⟨#[34, 34]⟩] w (TextB (quoteL t.data.toList) w) := by
  obtain ⟨_, m, hm⟩ := hL
  have hc : Lib.countB t ⟨#[34]⟩ ≤ t.size + 1 := by
    have := Lib.count_le t.data.toList [34]
    rw [len] at this
    exact this
  have h2 : (⟨#[34, 34]⟩ : ByteArray).size = 2 := rfl
  refine (Tryd.strings_ReplaceAll t ⟨#[34]⟩ ⟨#[34, 34]⟩ m w (by omega) hm (by decide) (by rw [h2]; omega)).mono fun e w' ⟨he, hb⟩ => ⟨_, he, ?_, hb⟩
  show Lib.replaceAll t.data.toList [34] [34, 34] = _
  exact Val.repl_all _
def sizeZ : Option (List UInt8 × Nat) → Int
  | some p => ((p.2 + 1 : Nat) : Int)
  | none => 0
/-- a text within marks, and how many bytes it has with them -/
def MarkedIs (r : Option (List UInt8 × Nat)) (w : World) (e : Ending) (w' : World) : Prop := ∃ s : ByteArray, e = .returned (.tuple #[.string s, .int .i64 (sizeZ r)]) ∧ s.data.toList = markT r ∧ Below w.heap.size w w'
set_option maxRecDepth 100000 in
set_option maxHeartbeats 4000000 in
theorem marked_c (t : ByteArray) (ht : t.size ≤ 900) (R : List UInt8) (hR : t.data.toList = 34 :: R) (w : World) (hL : LLibs w) : Calls Tryd.prog 14 #[.string t] w (MarkedIs (markL R) w) := by
  have hl : t.size = R.length + 1 := by rw [← len, hR]; rfl
  have HS := Lib.hid (fun w1 => markedsize_c t (by omega) (by omega) w1)
  have HP := Lib.hid (fun n c h w1 => plain_c (t.extract 0 n) (by rw [ByteArray.size_extract]; omega) c h w1)
  have hm := mark_raw _ R (Nat.le_refl _)
  have hf := mark_facts _ R (Nat.le_refl _)
  rw [hR] at HS
  have e1 : (34 :: R).drop 1 = R := rfl
  rw [e1] at HS
  have HL := Lib.hid hL
  clear hL
  cases hr : rawL R with
  | none =>
    rw [hr] at hm HS
    dsimp only at hm
    have HN := Lib.hid hm
    clear hm hf hr hR
    dsimp only [markedZ] at HS
    go_enter Tryd.func14, Tryd.ntmps14
    go_wp2_with fail
    refine (HS.out _).mono ?_
    rintro e w1 ⟨rfl, rfl⟩
    go_wp2_with fail
    go_ret2
    exact ⟨⟨#[]⟩, by rw [HN.out]; rfl, by rw [HN.out]; rfl, Below.refl _ _⟩
  | some n =>
    rw [hr] at hm HS
    dsimp only at hm
    dsimp only [markedZ] at HS
    obtain ⟨h1, h2, h3⟩ := hm
    have e2 : (t.extract 0 (n + 1)).data.toList = 34 :: R.take n := by rw [ext_take, hR, List.take_succ_cons]
    cases hp : (R.take n).all plainB with
    | false =>
      rw [if_neg (by rw [hp]; exact Bool.noConfusion)] at h3
      have HC := Lib.hid (HP.out (n + 1) false (by rw [e2, List.all_cons, hp, Bool.and_false]))
      have HN := Lib.hid h3
      clear h3 hr hR e2 hp HP
      have d1 : (((n + 1 : Nat) : Int) == 0) = false := beq_eq_false_iff_ne.2 (by omega)
      have hz : n + 1 ≤ t.size := by omega
      clear hl h2 hf
      generalize n + 1 = z at *
      go_enter Tryd.func14, Tryd.ntmps14
      go_wp2_with fail
      refine (HS.out _).mono ?_
      rintro e w1 ⟨rfl, rfl⟩
      go_wp2_with fail
      refine (HC.out _).mono ?_
      rintro e w1 ⟨rfl, rfl⟩
      go_wp2_with fail
      go_ret2
      exact ⟨⟨#[]⟩, by rw [HN.out]; rfl, by rw [HN.out]; rfl, Below.refl _ _⟩
    | true =>
      rw [if_pos hp] at h3
      obtain ⟨x, hx⟩ := h3
      have hq : R.take n = quoteL x ++ [34] := (hf x n hx).2.2.2.1
      have HC := Lib.hid (HP.out (n + 1) true (by rw [e2, List.all_cons, hp]; rfl))
      have HN := Lib.hid hx
      have HU := Lib.hid (fun w1 h => unquote_c (t.extract 1 n) (by rw [ByteArray.size_extract]; omega) x (by
        rw [Lib.extract_data, hR, List.drop_succ_cons, List.drop_zero, show R.take (n - 1) = (R.take n).take (n - 1) from by rw [List.take_take]; congr 1; omega, hq]
        refine List.take_left' ?_
        have := congrArg List.length hq
        rw [List.length_take, List.length_append, List.length_singleton] at this
        omega) w1 h)
      clear hf hr hR e2 hp HP hq hx
      have d1 : (((n + 1 : Nat) : Int) == 0) = false := beq_eq_false_iff_ne.2 (by omega)
      have hz : n + 1 ≤ t.size := by omega
      obtain ⟨z, hzz⟩ : ∃ z, n + 1 = z := ⟨_, rfl⟩
      obtain rfl : n = z - 1 := by omega
      have HZ : Hid ((((z - 1 + 1 : Nat)) : Int) = (z : Int)) := Lib.hid (by rw [hzz])
      rw [hzz] at HC HS hz d1
      clear hl h2
      go_enter Tryd.func14, Tryd.ntmps14
      go_wp2_with fail
      refine (HS.out _).mono ?_
      rintro e w1 ⟨rfl, rfl⟩
      go_wp2_with fail
      refine (HC.out _).mono ?_
      rintro e w1 ⟨rfl, rfl⟩
      go_wp2_with fail
      refine (HU.out _ HL.out).mono ?_
      rintro e w1 ⟨s, rfl, hs, hb⟩
      go_wp2_with fail
      go_ret2
      exact ⟨s, by rw [HN.out]; show _ = Ending.returned (.tuple #[.string s, .int .i64 ((z - 1 + 1 : Nat) : Int)]); rw [HZ.out]; rfl, by rw [HN.out]; exact hs, hb⟩
end Go.Proofs.YtmoednmgmmgjeaaDoor.Lex
