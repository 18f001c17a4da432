/- What Join answers, the program's and the reference's; and the reference's Rept: for at most 60 texts of at most a thousand bytes.
   Slices that read as values, as numbers, and as texts; rows of one's own of them. No function of the program is named here. -/
import Derived.Test.YtebjedbppiphgaaGreatDoorKtu21
import Derived.Test.YtebjedbppiphgaaGreatDoorKtu17
namespace Go.Proofs.YtebjedbppiphgaaGreatDoor.Txt
open Go.RowKit Kit Reg
/-- a slice that reads as texts -/
def StrsO (w : World) (A : Option Addr) (ws : List (List UInt8)) : Prop := ws = [] ∨ ∃ g o, A = some ⟨g, o, none⟩ ∧ g < w.heap.size ∧ ∀ i n, ws[i]? = some n → w.cell? ⟨g, o + i, none⟩ = some (.string ⟨n.toArray⟩)
theorem StrsO.on {w w' : World} {A : Option Addr} {ws : List (List UInt8)} (h : StrsO w A ws) (hb : Below w.heap.size w w') : StrsO w' A ws := by
  rcases h with h | ⟨g, o, hA, hg, h⟩
  · exact .inl h
  · exact .inr ⟨g, o, hA, Nat.lt_of_lt_of_le hg hb.size, fun i c hc => (hb.cell (p := ⟨g, o + i, none⟩) hg).trans (h i c hc)⟩
theorem flat_snoc {L : List (List UInt8)} {k : Nat} {x : List UInt8} (h : L[k]? = some x) : (L.take (k + 1)).flatten = (L.take k).flatten ++ x := by
  rw [List.take_add_one, h]
  simp
theorem flat_le (L : List (List UInt8)) (k : Nat) : (L.take k).flatten.length ≤ L.flatten.length := by
  have h2 : L.flatten = (L.take k).flatten ++ (L.drop k).flatten := by rw [← List.flatten_append, List.take_append_drop]
  rw [h2, List.length_append]
  omega
theorem flat_part {L : List (List UInt8)} {k : Nat} {x : List UInt8} (h : L[k]? = some x) : (L.take k).flatten.length + x.length ≤ L.flatten.length := by
  have := flat_le L (k + 1)
  rw [flat_snoc h, List.length_append] at this
  exact this
theorem arr_size (p : List UInt8) : (⟨p.toArray⟩ : ByteArray).size = p.length := by rw [ByteArray.size, List.size_toArray]
theorem fits_one {x y : Nat} (h : x ≤ 256) : fitsB y 1 (256 - (x : Int)) = decide (x + y ≤ 256) := by
  unfold fitsB
  rw [decide_eq_true (show (0 : Int) ≤ 256 - (x : Int) by omega), decide_eq_false (show ¬ (1 : Int) = 0 by omega), Bool.true_and, Bool.false_or]
  by_cases h2 : x + y ≤ 256
  · rw [decide_eq_true h2, decide_eq_true (by omega)]
  · rw [decide_eq_false h2, decide_eq_false (by omega)]
set_option maxRecDepth 100000 in
set_option maxHeartbeats 2000000 in
theorem join_c (A : Option Addr) (cap c : Nat) (L : List (List UInt8)) (hc : L.length = c) (hc9 : c ≤ 1000000) (h9 : ∀ x ∈ L, x.length ≤ 1000000) (m : List UInt8) (b : Bool) (hr : roomD L.flatten = (m, b)) (w : World) (h : StrsO w A L) :
    Calls Tryz.prog 86 #[.slice A c cap] w fun e w' => e = .returned (.tuple #[.string ⟨m.toArray⟩, .bool b]) ∧ w = w' := by
  have H := Lib.hid h
  have HC := Lib.hid hc
  have H9 : Hid (∀ k (x : List UInt8), L[k]? = some x → x.length ≤ 1000000) := Lib.hid fun k x hx => h9 x (List.mem_of_getElem? hx)
  have HNo : Hid (∀ k (x : List UInt8), L[k]? = some x → ¬ (L.take k).flatten.length + x.length ≤ 256 → m = [] ∧ b = false) := Lib.hid fun k x hx hn => by
    have := flat_part hx
    rw [room_out (by omega)] at hr
    obtain ⟨rfl, rfl⟩ := Prod.mk.inj hr
    exact ⟨rfl, rfl⟩
  have HYes : Hid ((L.take c).flatten.length ≤ 256 → m = (L.take c).flatten ∧ b = true) := Lib.hid fun hn => by
    rw [List.take_of_length_le (by omega)] at hn ⊢
    rw [room_in hn] at hr
    obtain ⟨rfl, rfl⟩ := Prod.mk.inj hr
    exact ⟨rfl, rfl⟩
  have HF := Lib.hid (fun s n l b h1 h2 h3 h4 w => fits_c s n l b h1 h2 h3 h4 w)
  clear h hc h9 hr
  go_enter Tryz.func86, Tryz.ntmps86
  go_wp2
  go_loopw [4, 9] (fun o i wr => ∃ (k : Nat) (x : ByteArray), k ≤ c ∧ i = .int .i64 k ∧ o = .string x ∧ Hid (x.data.toList = (L.take k).flatten) ∧ x.size ≤ 256 ∧ w = wr) (fun _ i _ => c - (intOf i).toNat)
  case atStart => exact ⟨0, ⟨#[]⟩, Nat.zero_le _, rfl, rfl, Lib.hid (by simp), Nat.zero_le _, rfl⟩
  case round =>
    obtain ⟨k, x, hk, rfl, rfl, hx, hx9, rfl⟩ := hrel
    by_cases hlt : k < c
    · obtain ⟨p, hp⟩ : ∃ p, L[k]? = some p := ⟨_, List.getElem?_eq_getElem (by rw [HC.out]; exact hlt)⟩
      have hne : L ≠ [] := by intro e; have := HC.out; rw [e] at this; simp at this; omega
      obtain ⟨g, of, rfl, hg, hc1⟩ := H.out.resolve_left hne
      have x0 := hc1 k p hp
      have hp9 := H9.out k p hp
      have HNp := HNo.out k p hp
      rw [← hx.out, len] at HNp
      rw [← arr_size p] at hp9 HNp
      have HN : Hid ((x ++ ⟨p.toArray⟩).data.toList = (L.take (k + 1)).flatten) := Lib.hid (by rw [flat_snoc hp, ← hx.out]; simp)
      have hsz : (x ++ ⟨p.toArray⟩).size = x.size + (⟨p.toArray⟩ : ByteArray).size := by simp
      clear hc1 hp hne
      generalize (⟨p.toArray⟩ : ByteArray) = y at *
      have HNp2 := Lib.hid HNp
      clear HNp
      by_cases hfit : x.size + y.size ≤ 256
      · have HF2 : Hid (∀ w, Calls Tryz.prog 190 #[.int .i64 (y.size : Int), .int .i64 1, .int .i64 (256 - (x.size : Int))] w fun e w' => e = .returned (.bool true) ∧ w = w') :=
          Lib.hid fun w => HF.out y.size 1 (256 - (x.size : Int)) true (by rw [fits_one hx9]; exact decide_eq_true hfit) (by omega) (by omega) (by omega) w
        clear HF
        go_wp2_with fail
        refine (HF2.out _).mono ?_
        rintro e w1 ⟨rfl, rfl⟩
        clear HF2
        go_wp2
        go_roundw
        case rel => exact ⟨k + 1, x ++ y, by omega, by go_num, rfl, HN, by omega, by first | rfl | trivial⟩
        case measure => simp [intOf]; omega
      · obtain ⟨rfl, rfl⟩ := HNp2.out hfit
        have HF2 : Hid (∀ w, Calls Tryz.prog 190 #[.int .i64 (y.size : Int), .int .i64 1, .int .i64 (256 - (x.size : Int))] w fun e w' => e = .returned (.bool false) ∧ w = w') :=
          Lib.hid fun w => HF.out y.size 1 (256 - (x.size : Int)) false (by rw [fits_one hx9]; exact decide_eq_false hfit) (by omega) (by omega) (by omega) w
        clear HF
        go_wp2_with fail
        refine (HF2.out _).mono ?_
        rintro e w1 ⟨rfl, rfl⟩
        clear HF2
        go_wp2
        go_ret2
        exact ⟨rfl, rfl⟩
    · obtain rfl : k = c := by omega
      obtain ⟨rfl, rfl⟩ := HYes.out (by rw [← hx.out, len]; exact hx9)
      have hX := str_is hx.out
      clear hx
      go_wp2
      go_ret2
      exact ⟨rfl, rfl⟩

end Go.Proofs.YtebjedbppiphgaaGreatDoor.Txt
namespace Go.Proofs.YtebjedbppiphgaaGreatDoor.Fld
open Go.RowKit Kit Reg Dec Dig Val Txt
/-- a slice, nil too, that reads as a list of values -/
def ValsR (w : World) (A : Option Addr) (n : Nat) (L : List Vl) : Prop :=
  L.length = n ∧ n ≤ 1000 ∧ (∀ v ∈ L, v.fits) ∧ (n ≠ 0 → ∃ b o, A = some ⟨b, o, none⟩ ∧ b < w.heap.size ∧ ∀ k v, L[k]? = some v → ∀ j x, v.cells[j]? = some x → w.cell? ⟨b, o + k * 3 + j, none⟩ = some x)
theorem ValsR.on {w w' : World} {A : Option Addr} {n : Nat} {L : List Vl} (h : ValsR w A n L) (hb : Below w.heap.size w w') : ValsR w' A n L := by
  obtain ⟨h1, h2, hu, h3⟩ := h
  refine ⟨h1, h2, hu, fun hn => ?_⟩
  obtain ⟨b, o, rfl, hlt, hc⟩ := h3 hn
  exact ⟨b, o, rfl, Nat.lt_of_lt_of_le hlt hb.size, fun k v hk j x hj => (hb.cell (p := ⟨b, o + k * 3 + j, none⟩) hlt).trans (hc k v hk j x hj)⟩
/-- the value at a place: its three cells -/
theorem ValsR.at {w : World} {A : Option Addr} {n : Nat} {L : List Vl} (h : ValsR w A n L) {k : Nat} {v : Vl} (hk : L[k]? = some v) : ∃ b o, A = some ⟨b, o, none⟩ ∧ b < w.heap.size ∧
    w.cell? ⟨b, o + k * 3, none⟩ = some (.int .i64 v.k) ∧ w.cell? ⟨b, o + k * 3 + 1, none⟩ = some (.int .i64 v.n) ∧ w.cell? ⟨b, o + k * 3 + 2, none⟩ = some (.string v.t) := by
  obtain ⟨h1, _, _, h3⟩ := h
  have hlt := (List.getElem?_eq_some_iff.1 hk).1
  obtain ⟨b, o, e, hb, hc⟩ := h3 (by omega)
  exact ⟨b, o, e, hb, hc k v hk 0 _ rfl, hc k v hk 1 _ rfl, hc k v hk 2 _ rfl⟩
theorem ValsR.get {w : World} {A : Option Addr} {n : Nat} {L : List Vl} (h : ValsR w A n L) {k : Nat} (hk : k < n) : ∃ v, L[k]? = some v := ⟨_, List.getElem?_eq_getElem (by rw [h.1]; exact hk)⟩
/-- a slice that reads as numbers -/
def IntsR (w : World) (A : Option Addr) (xs : List Int) : Prop := xs = [] ∨ ∃ g o, A = some ⟨g, o, none⟩ ∧ g < w.heap.size ∧ ∀ i n, xs[i]? = some n → w.cell? ⟨g, o + i, none⟩ = some (.int .i64 n)
theorem IntsR.on {w w' : World} {A : Option Addr} {xs : List Int} (h : IntsR w A xs) (hb : Below w.heap.size w w') : IntsR w' A xs := by
  rcases h with h | ⟨g, o, hA, hg, h⟩
  · exact .inl h
  · exact .inr ⟨g, o, hA, Nat.lt_of_lt_of_le hg hb.size, fun i c hc => (hb.cell (p := ⟨g, o + i, none⟩) hg).trans (h i c hc)⟩
theorem IntsR.at {w : World} {A : Option Addr} {xs : List Int} (h : IntsR w A xs) {k : Nat} {x : Int} (hk : xs[k]? = some x) : ∃ g o, A = some ⟨g, o, none⟩ ∧ g < w.heap.size ∧ w.cell? ⟨g, o + k, none⟩ = some (.int .i64 x) := by
  rcases h with h | ⟨g, o, hA, hg, h⟩
  · rw [h] at hk; simp at hk
  · exact ⟨g, o, hA, hg, h k x hk⟩
/-- rows of one's own: of numbers -/
def OwnI (B : Nat) (v : Value) (xs : List Int) (w : World) : Prop := w.ownsRow B 2 1 v xs.length (xs.map (Value.int .i64))
theorem OwnI.on {B : Nat} {w w' : World} {v : Value} {xs : List Int} (h : OwnI B v xs w) (hb : Below w.heap.size w w') : OwnI B v xs w' := own_on h hb
theorem OwnI.reads {B : Nat} {v : Value} {xs : List Int} {w : World} (h : OwnI B v xs w) : ∃ A cap, v = .slice A xs.length cap ∧ IntsR w A xs := by
  have h0 := h
  rcases h.2 with ⟨rfl, h1⟩ | ⟨g, cap, cur, rfl, hb, hg, hrest⟩
  · exact ⟨_, _, by rw [h1], .inl (List.eq_nil_of_length_eq_zero h1)⟩
  · refine ⟨_, _, rfl, .inr ⟨g, 0, rfl, (Array.getElem?_eq_some_iff.1 hg).1, fun i n hi => ?_⟩⟩
    have hl := (List.getElem?_eq_some_iff.1 hi).1
    have e := World.ownsRow.cellAt h0 i (by omega)
    rw [Nat.zero_add, e, List.getElem?_map, hi]
    rfl
/-- .. of texts -/
def OwnT (B : Nat) (v : Value) (ls : List (List UInt8)) (w : World) : Prop := w.ownsRow B 9 1 v ls.length (ls.map fun l => Value.string ⟨l.toArray⟩)
theorem OwnT.on {B : Nat} {w w' : World} {v : Value} {xs : List (List UInt8)} (h : OwnT B v xs w) (hb : Below w.heap.size w w') : OwnT B v xs w' := own_on h hb
theorem OwnT.reads {B : Nat} {v : Value} {xs : List (List UInt8)} {w : World} (h : OwnT B v xs w) : ∃ A cap, v = .slice A xs.length cap ∧ StrsO w A xs := by
  have h0 := h
  rcases h.2 with ⟨rfl, h1⟩ | ⟨g, cap, cur, rfl, hb, hg, hrest⟩
  · exact ⟨_, _, by rw [h1], .inl (List.eq_nil_of_length_eq_zero h1)⟩
  · refine ⟨_, _, rfl, .inr ⟨g, 0, rfl, (Array.getElem?_eq_some_iff.1 hg).1, fun i n hi => ?_⟩⟩
    have hl := (List.getElem?_eq_some_iff.1 hi).1
    have e := World.ownsRow.cellAt h0 i (by omega)
    rw [Nat.zero_add, e, List.getElem?_map, hi]
    rfl
/-- .. of values -/
def flatV : List Vl → List Value
  | [] => []
  | v :: r => v.cells ++ flatV r
theorem flatV_length : ∀ L : List Vl, (flatV L).length = L.length * 3
  | [] => rfl
  | v :: r => by
    have ih := flatV_length r
    rw [flatV, List.length_append, ih, List.length_cons]
    show 3 + _ = _
    omega
theorem flatV_at : ∀ (L : List Vl) (k : Nat) (v : Vl), L[k]? = some v → ∀ j x, v.cells[j]? = some x → (flatV L)[k * 3 + j]? = some x
  | [], k, v, h, j, x, hj => by simp at h
  | u :: r, 0, v, h, j, x, hj => by
    simp at h
    subst h
    have hl := (List.getElem?_eq_some_iff.1 hj).1
    rw [flatV, Nat.zero_mul, Nat.zero_add, List.getElem?_append_left hl]
    exact hj
  | u :: r, k + 1, v, h, j, x, hj => by
    have ih := flatV_at r k v (by simpa using h) j x hj
    rw [flatV, List.getElem?_append_right (by show 3 ≤ _; omega)]
    rw [← ih]
    congr 1
    show (k + 1) * 3 + j - 3 = k * 3 + j
    omega
def OwnV (B : Nat) (v : Value) (L : List Vl) (w : World) : Prop := w.ownsRow B 23 3 v L.length (flatV L)
theorem OwnV.on {B : Nat} {w w' : World} {v : Value} {L : List Vl} (h : OwnV B v L w) (hb : Below w.heap.size w w') : OwnV B v L w' := own_on h hb
theorem OwnV.reads {B n : Nat} {v : Value} {L : List Vl} {w : World} (h : OwnV B v L w) (hn : L.length = n) (hm : n ≤ 1000) (hu : ∀ x ∈ L, x.fits) : ∃ A cap, v = .slice A n cap ∧ ValsR w A n L := by
  subst hn
  have h0 := h
  rcases h.2 with ⟨rfl, h1⟩ | ⟨g, cap, cur, rfl, hb, hg, hrest⟩
  · exact ⟨_, _, by rw [h1], rfl, hm, hu, fun hn => absurd h1 hn⟩
  · refine ⟨_, _, rfl, rfl, hm, hu, fun hn => ⟨g, 0, rfl, (Array.getElem?_eq_some_iff.1 hg).1, fun k x hk j y hj => ?_⟩⟩
    have h1 := (List.getElem?_eq_some_iff.1 hk).1
    have h2 : j < 3 := (List.getElem?_eq_some_iff.1 hj).1
    have e := World.ownsRow.cellAt h0 (k * 3 + j) (by omega)
    rw [Nat.zero_add, e]
    exact flatV_at L k x hk j y hj
end Go.Proofs.YtebjedbppiphgaaGreatDoor.Fld
