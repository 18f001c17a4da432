/- What Join answers, the program's and the reference's; and the reference's Rept: for at most 60 texts of at most a thousand bytes. -/
import Derived.Test.YtebjedbppiphgaaGreatDoorKop20
namespace Go.Proofs.YtebjedbppiphgaaGreatDoor.Txt
open Go.RowKit Kit Reg
/-- a slice that reads as texts -/
def StrsO (w : World) (A : Option Addr) (ws : List (List UInt8)) : Prop := ws = [] ∨ ∃ g o, A = some ⟨g, o, none⟩ ∧ g < w.heap.size ∧ ∀ i n, ws[i]? = some n → w.cell? ⟨g, o + i, none⟩ = some (.string ⟨n.toArray⟩)
theorem StrsO.on {w w' : World} {A : Option Addr} {ws : List (List UInt8)} (h : StrsO w A ws) (hb : Below w.heap.size w w') : StrsO w' A ws := by
  rcases h with h | ⟨g, o, hA, hg, h⟩
  · exact .inl h
  · exact .inr ⟨g, o, hA, Nat.lt_of_lt_of_le hg hb.size, fun i c hc => (hb.cell (p := ⟨g, o + i, none⟩) hg).trans (h i c hc)⟩
theorem flat_snoc {L : List (List UInt8)} {k : Nat} {x : List UInt8} (h : L[k]? = some x) : (L.take (k + 1)).flatten = (L.take k).flatten ++ x := by
  rw [List.take_add_one, h]
  simp
theorem flat_le (L : List (List UInt8)) (k : Nat) : (L.take k).flatten.length ≤ L.flatten.length := by
  have h2 : L.flatten = (L.take k).flatten ++ (L.drop k).flatten := by rw [← List.flatten_append, List.take_append_drop]
  rw [h2, List.length_append]
  omega
theorem flat_part {L : List (List UInt8)} {k : Nat} {x : List UInt8} (h : L[k]? = some x) : (L.take k).flatten.length + x.length ≤ L.flatten.length := by
  have := flat_le L (k + 1)
  rw [flat_snoc h, List.length_append] at this
  exact this
theorem arr_size (p : List UInt8) : (⟨p.toArray⟩ : ByteArray).size = p.length := by rw [ByteArray.size, List.size_toArray]
theorem fits_one {x y : Nat} (h : x ≤ 256) : fitsB y 1 (256 - (x : Int)) = decide (x + y ≤ 256) := by
  unfold fitsB
  rw [decide_eq_true (show (0 : Int) ≤ 256 - (x : Int) by omega), decide_eq_false (show ¬ (1 : Int) = 0 by omega), Bool.true_and, Bool.false_or]
  by_cases h2 : x + y ≤ 256
  · rw [decide_eq_true h2, decide_eq_true (by omega)]
  · rw [decide_eq_false h2, decide_eq_false (by omega)]
set_option maxRecDepth 100000 in
set_option maxHeartbeats 2000000 in
theorem join_c (A : Option Addr) (cap c : Nat) (L : List (List UInt8)) (hc : L.length = c) (hc9 : c ≤ 1000000) (h9 : ∀ x ∈ L, x.length ≤ 1000000) (m : List UInt8) (b : Bool) (hr : roomD L.flatten = (m, b)) (w : World) (h : StrsO w A L) :
    Calls Tryz.prog 86 #[.slice A c cap] w fun e w' => e = .returned (.tuple #[.string ⟨m.toArray⟩, .bool b]) ∧ w = w' := by
  have H := Lib.hid h
  have HC := Lib.hid hc
  have H9 : Hid (∀ k (x : List UInt8), L[k]? = some x → x.length ≤ 1000000) := Lib.hid fun k x hx => h9 x (List.mem_of_getElem? hx)
  have HNo : Hid (∀ k (x : List UInt8), L[k]? = some x → ¬ (L.take k).flatten.length + x.length ≤ 256 → m = [] ∧ b = false) := Lib.hid fun k x hx hn => by
    have := flat_part hx
    rw [room_out (by omega)] at hr
    obtain ⟨rfl, rfl⟩ := Prod.mk.inj hr
    exact ⟨rfl, rfl⟩
  have HYes : Hid ((L.take c).flatten.length ≤ 256 → m = (L.take c).flatten ∧ b = true) := Lib.hid fun hn => by
    rw [List.take_of_length_le (by omega)] at hn ⊢
    rw [room_in hn] at hr
    obtain ⟨rfl, rfl⟩ := Prod.mk.inj hr
    exact ⟨rfl, rfl⟩
  have HF := Lib.hid (fun s n l b h1 h2 h3 h4 w => fits_c s n l b h1 h2 h3 h4 w)
  clear h hc h9 hr
  go_enter Tryz.func86, Tryz.ntmps86
  go_wp2
  go_loopw [4, 9] (fun o i wr => ∃ (k : Nat) (x : ByteArray), k ≤ c ∧ i = .int .i64 k ∧ o = .string x ∧ Hid (x.data.toList = (L.take k).flatten) ∧ x.size ≤ 256 ∧ w = wr) (fun _ i _ => c - (intOf i).toNat)
  case atStart => exact ⟨0, ⟨#[]⟩, Nat.zero_le _, rfl, rfl, Lib.hid (by simp), Nat.zero_le _, rfl⟩
  case round =>
    obtain ⟨k, x, hk, rfl, rfl, hx, hx9, rfl⟩ := hrel
    by_cases hlt : k < c
    · obtain ⟨p, hp⟩ : ∃ p, L[k]? = some p := ⟨_, List.getElem?_eq_getElem (by rw [HC.out]; exact hlt)⟩
      have hne : L ≠ [] := by intro e; have := HC.out; rw [e] at this; simp at this; omega
      obtain ⟨g, of, rfl, hg, hc1⟩ := H.out.resolve_left hne
      have x0 := hc1 k p hp
      have hp9 := H9.out k p hp
      have HNp := HNo.out k p hp
      rw [← hx.out, len] at HNp
      rw [← arr_size p] at hp9 HNp
      have HN : Hid ((x ++ ⟨p.toArray⟩).data.toList = (L.take (k + 1)).flatten) := Lib.hid (by rw [flat_snoc hp, ← hx.out]; simp)
      have hsz : (x ++ ⟨p.toArray⟩).size = x.size + (⟨p.toArray⟩ : ByteArray).size := by simp
      clear hc1 hp hne
      generalize (⟨p.toArray⟩ : ByteArray) = y at *
      have HNp2 := Lib.hid HNp
      clear HNp
      by_cases hfit : x.size + y.size ≤ 256
      · have HF2 : Hid (∀ w, Calls Tryz.prog 190 #[.int .i64 (y.size : Int), .int .i64 1, .int .i64 (256 - (x.size : Int))] w fun e w' => e = .returned (.bool true) ∧ w = w') :=
          Lib.hid fun w => HF.out y.size 1 (256 - (x.size : Int)) true (by rw [fits_one hx9]; exact decide_eq_true hfit) (by omega) (by omega) (by omega) w
        clear HF
        go_wp2_with fail
        refine (HF2.out _).mono ?_
        rintro e w1 ⟨rfl, rfl⟩
        clear HF2
        go_wp2
        go_roundw
        case rel => exact ⟨k + 1, x ++ y, by omega, by go_num, rfl, HN, by omega, by first | rfl | trivial⟩
        case measure => simp [intOf]; omega
      · obtain ⟨rfl, rfl⟩ := HNp2.out hfit
        have HF2 : Hid (∀ w, Calls Tryz.prog 190 #[.int .i64 (y.size : Int), .int .i64 1, .int .i64 (256 - (x.size : Int))] w fun e w' => e = .returned (.bool false) ∧ w = w') :=
          Lib.hid fun w => HF.out y.size 1 (256 - (x.size : Int)) false (by rw [fits_one hx9]; exact decide_eq_false hfit) (by omega) (by omega) (by omega) w
        clear HF
        go_wp2_with fail
        refine (HF2.out _).mono ?_
        rintro e w1 ⟨rfl, rfl⟩
        clear HF2
        go_wp2
        go_ret2
        exact ⟨rfl, rfl⟩
    · obtain rfl : k = c := by omega
      obtain ⟨rfl, rfl⟩ := HYes.out (by rw [← hx.out, len]; exact hx9)
      have hX := str_is hx.out
      clear hx
      go_wp2
      go_ret2
      exact ⟨rfl, rfl⟩

/-- the end of a call of the reference that ends in room -/
theorem got_ends {w w1 : World} {m : List UInt8} {b : Bool} (hb1 : Below (w.alloc (.cells #[.string ⟨#[]⟩, .bool false] 59)).heap.size (w.alloc (.cells #[.string ⟨#[]⟩, .bool false] 59)) w1) :
    (w.heap.size < w1.heap.size ∧ (w1.cell? ⟨w.heap.size, 0, none⟩ = some (.string ⟨#[]⟩) ∧ w1.cell? ⟨w.heap.size, 1, none⟩ = some (.bool false) ∧ w1.frozen? ⟨w.heap.size, 0, none⟩ = false ∧ w1.frozen? ⟨w.heap.size, 1, none⟩ = false)) ∧
    (((w1.setCell ⟨w.heap.size, 0, none⟩ (.string ⟨m.toArray⟩)).setCell ⟨w.heap.size, 1, none⟩ (.bool b)).cell? ⟨w.heap.size, 0, none⟩ = some (.string ⟨m.toArray⟩) ∧
      ((w1.setCell ⟨w.heap.size, 0, none⟩ (.string ⟨m.toArray⟩)).setCell ⟨w.heap.size, 1, none⟩ (.bool b)).cell? ⟨w.heap.size, 1, none⟩ = some (.bool b)) ∧
    Below w.heap.size w ((w1.setCell ⟨w.heap.size, 0, none⟩ (.string ⟨m.toArray⟩)).setCell ⟨w.heap.size, 1, none⟩ (.bool b)) := by
  obtain ⟨hc, hw⟩ := slot (cs := [.string ⟨#[]⟩, .bool false]) (ty := 59) hb1
  obtain ⟨p0, p1, f0, f1⟩ := hc.two
  exact ⟨⟨hc.1, p0, p1, f0, f1⟩, two_set (u := .string ⟨m.toArray⟩) (v := .bool b) p0 p1, set2 hw (Nat.le_refl _) _ _⟩
set_option maxRecDepth 100000 in
set_option maxHeartbeats 2000000 in
theorem rjoin_c (A : Option Addr) (cap c : Nat) (L : List (List UInt8)) (hc : L.length = c) (hc9 : c ≤ 1000000) (h9 : ∀ x ∈ L, x.length ≤ 1000) (m : List UInt8) (b : Bool) (hr : roomD L.flatten = (m, b)) (w : World) (h : StrsO w A L) :
    Calls Tryz.prog 40 #[.slice A c cap] w (GotS m b w) := by
  have H := Lib.hid (h.on (below1 w (.cells #[.string ⟨#[]⟩, .bool false] 59)))
  have HC := Lib.hid hc
  have H9 : Hid (∀ k (x : List UInt8), L[k]? = some x → x.length ≤ 1000) := Lib.hid fun k x hx => h9 x (List.mem_of_getElem? hx)
  have HNo : Hid (∀ k, 256 < (L.take k).flatten.length → roomD (L.take k).flatten = (m, b)) := Lib.hid fun k hn => by
    have := flat_le L k
    rw [room_out (by omega)] at hr ⊢
    exact hr
  have HYes : Hid (roomD (L.take c).flatten = (m, b)) := Lib.hid (by rw [List.take_of_length_le (by omega)]; exact hr)
  have HR := Lib.hid (fun s h9 hr w => room_c s h9 m b hr w)
  have HEnd := Lib.hid (fun w1 hb1 => got_ends (w := w) (w1 := w1) (m := m) (b := b) hb1)
  clear h hc h9 hr
  go_enter Tryz.func40, Tryz.ntmps40
  go_wp2
  generalize hgw : w.alloc (.cells #[.string ⟨#[]⟩, .bool false] 59) = w0 at *
  clear hgw
  go_loopw [3, 4] (fun o i wr => ∃ (k : Nat) (x : ByteArray), k ≤ c ∧ i = .int .i64 k ∧ o = .string x ∧ Hid (x.data.toList = (L.take k).flatten) ∧ x.size ≤ 1256 ∧ w0 = wr) (fun _ i _ => c - (intOf i).toNat)
  case atStart => exact ⟨0, ⟨#[]⟩, Nat.zero_le _, rfl, rfl, Lib.hid (by simp), Nat.zero_le _, rfl⟩
  case round =>
    obtain ⟨k, x, hk, rfl, rfl, hx, hx9, rfl⟩ := hrel
    by_cases hx2 : x.size ≤ 256
    · by_cases hlt : k < c
      · obtain ⟨p, hp⟩ : ∃ p, L[k]? = some p := ⟨_, List.getElem?_eq_getElem (by rw [HC.out]; exact hlt)⟩
        have hne : L ≠ [] := by intro e; have := HC.out; rw [e] at this; simp at this; omega
        obtain ⟨g, of, rfl, hg, hc1⟩ := H.out.resolve_left hne
        have x0 := hc1 k p hp
        have hp9 := H9.out k p hp
        rw [← arr_size p] at hp9
        have HN : Hid ((x ++ ⟨p.toArray⟩).data.toList = (L.take (k + 1)).flatten) := Lib.hid (by rw [flat_snoc hp, ← hx.out]; simp)
        have hsz : (x ++ ⟨p.toArray⟩).size = x.size + (⟨p.toArray⟩ : ByteArray).size := by simp
        clear hc1 hp hne
        generalize (⟨p.toArray⟩ : ByteArray) = y at *
        go_wp2
        go_roundw
        case rel => exact ⟨k + 1, x ++ y, by omega, by go_num, rfl, HN, by omega, by first | rfl | trivial⟩
        case measure => simp [intOf]; omega
      · obtain rfl : k = c := by omega
        have HR2 := Lib.hid (HR.out x (by omega) (by rw [hx.out]; exact HYes.out))
        clear HR hx HYes HNo
        go_wp2_with fail
        refine (HR2.out _).mono ?_
        rintro e w1 ⟨rfl, hb1⟩
        obtain ⟨⟨hlt9, p0, p1, f0, f1⟩, ⟨e0, e1⟩, hw3⟩ := HEnd.out w1 hb1
        replace e0 := Lib.hid e0
        replace e1 := Lib.hid e1
        replace hw3 := Lib.hid hw3
        clear hb1
        go_wp2_with fail
        exact bodyPost_ret (v := .agg #[.string ⟨m.toArray⟩, .bool b]) (by simp [results, Tryz.results40, go_sem, e0.out, e1.out]) rfl ⟨rfl, hw3.out⟩
    · have d1 : decide ((x.size : Int) ≤ 256) = false := decide_eq_false (by omega)
      have d2 : decide (x.size ≤ 256) = false := decide_eq_false hx2
      have HR2 := Lib.hid (HR.out x (by omega) (by rw [hx.out]; exact HNo.out k (by rw [← hx.out, len]; omega)))
      clear HR hx HYes HNo
      have hck : k < c ∨ ¬ k < c := by omega
      rcases hck with hlt | hlt
      all_goals
        go_wp2_with fail
        refine (HR2.out _).mono ?_
        rintro e w1 ⟨rfl, hb1⟩
        obtain ⟨⟨hlt9, p0, p1, f0, f1⟩, ⟨e0, e1⟩, hw3⟩ := HEnd.out w1 hb1
        replace e0 := Lib.hid e0
        replace e1 := Lib.hid e1
        replace hw3 := Lib.hid hw3
        clear hb1
        go_wp2_with fail
        exact bodyPost_ret (v := .agg #[.string ⟨m.toArray⟩, .bool b]) (by simp [results, Tryz.results40, go_sem, e0.out, e1.out]) rfl ⟨rfl, hw3.out⟩
end Go.Proofs.YtebjedbppiphgaaGreatDoor.Txt
