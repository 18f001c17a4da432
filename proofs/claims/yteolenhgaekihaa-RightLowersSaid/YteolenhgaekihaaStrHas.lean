/- slices.Index and slices.Contains of texts: for any slice that reads as texts. -/
import Derived.Test.YteolenhgaekihaaRightRows
namespace Go.Proofs.Yteolenhgaekihaa.Right
open Go.RowKit Kit Reg

/-- the place of a text, from a place on; -1: none -/
def indexN : List ByteArray → ByteArray → Nat → Int
  | [], _, _ => -1
  | m :: r, t, k => if (t.toList == m.toList) = true then k else indexN r t (k + 1)
theorem indexN_hit {ns : List ByteArray} {k : Nat} {m t : ByteArray} (h : ns[k]? = some m) (hh : (t.toList == m.toList) = true) : indexN (ns.drop k) t k = k := by rw [drop_at h, indexN, if_pos hh]
theorem indexN_miss {ns : List ByteArray} {k : Nat} {m t : ByteArray} (h : ns[k]? = some m) (hh : (t.toList == m.toList) = false) : indexN (ns.drop k) t k = indexN (ns.drop (k + 1)) t (k + 1) := by rw [drop_at h, indexN, if_neg (by rw [hh]; simp)]
theorem indexN_end (ns : List ByteArray) (t : ByteArray) : indexN (ns.drop ns.length) t ns.length = -1 := by rw [List.drop_length]; rfl
theorem indexN_has : ∀ (ns : List ByteArray) (t : ByteArray) (k : Nat), decide (0 ≤ indexN ns t k) = hasN ns t
  | [], _, _ => rfl
  | m :: r, t, k => by
    have hc : hasN (m :: r) t = ((m.toList == t.toList) || hasN r t) := by simp [hasN]
    unfold indexN
    rw [hc]
    by_cases h : t = m
    · subst h
      rw [if_pos (name_refl t), name_refl]
      simp
    · rw [if_neg (by rw [name_ne h]; simp), name_ne (fun e => h e.symm), Bool.false_or]
      exact indexN_has r t (k + 1)
set_option maxRecDepth 100000 in
set_option maxHeartbeats 2000000 in
theorem index_c (v : Value) (ns : List ByteArray) (t : ByteArray) (hn9 : ns.length ≤ 140737488355328) (p : Int) (hp : indexN ns t 0 = p) (w : World) (h : StrsR w v ns) :
    Calls Try.prog 40 #[v, .string t] w fun e w' => e = .returned (.int .i64 p) ∧ Below w.heap.size w w' := by
  obtain ⟨A, cap, rfl, h⟩ := h
  have K := Lib.hid h
  obtain ⟨n, hn⟩ : ∃ n, ns.length = n := ⟨_, rfl⟩
  rw [hn] at hn9 ⊢
  have HN := Lib.hid hn
  have HC := Lib.hid hp
  clear h hp hn
  go_enter Try.func40, Try.ntmps40
  go_wp2
  go_loopw [8] (fun i wr => ∃ k : Nat, k ≤ n ∧ i = .int .i64 k ∧ Hid (indexN (ns.drop k) t k = p) ∧ Below w.heap.size w wr) (fun i _ => n - (intOf i).toNat)
  case atStart => exact ⟨0, Nat.zero_le _, rfl, HC, Below.refl _ _⟩
  case round =>
    obtain ⟨k, hk, rfl, HK, hb⟩ := hrel
    by_cases hlt : k < n
    · obtain ⟨c, hc⟩ : ∃ c, ns[k]? = some c := ⟨_, List.getElem?_eq_getElem (by rw [HN.out]; exact hlt)⟩
      have hne : ns ≠ [] := by intro e; have := HN.out; rw [e] at this; simp at this; omega
      obtain ⟨g, rfl, hg, hc1⟩ := K.out.resolve_left hne
      have x0 := (hb.cell (p := ⟨g, k, none⟩) hg).trans (hc1 k c hc)
      have Hc := Lib.hid hc
      clear hc1 hc
      cases hh : (t.toList == c.toList) with
      | false =>
        have HNx : Hid (indexN (ns.drop (k + 1)) t (k + 1) = p) := by rw [← indexN_miss Hc.out hh]; exact HK
        go_wp2
        go_roundw
        case rel => exact ⟨k + 1, by omega, by go_num, HNx, hb⟩
        case measure => simp [intOf]; omega
      | true =>
        have HNx : (k : Int) = p := by rw [← indexN_hit Hc.out hh]; exact HK.out
        subst HNx
        go_wp2
        go_ret
        exact ⟨rfl, hb⟩
    · obtain rfl : k = n := by omega
      have HE := HK.out
      rw [← HN.out, indexN_end] at HE
      subst HE
      go_wp2
      go_ret
      exact ⟨rfl, hb⟩
set_option maxRecDepth 100000 in
set_option maxHeartbeats 2000000 in
theorem contains_c (v : Value) (ns : List ByteArray) (t : ByteArray) (hn9 : ns.length ≤ 140737488355328) (q : Bool) (hq : hasN ns t = q) (w : World) (h : StrsR w v ns) :
    Calls Try.prog 36 #[v, .string t] w fun e w' => e = .returned (.bool q) ∧ Below w.heap.size w w' := by
  obtain ⟨p, hp⟩ : ∃ p, indexN ns t 0 = p := ⟨_, rfl⟩
  have hd : decide (0 ≤ p) = q := by rw [← hp, indexN_has, hq]
  have HI := Lib.hid (index_c v ns t hn9 p hp w h)
  clear hp hq h
  go_enter Try.func36, Try.ntmps36
  go_wp2_with fail
  refine HI.out.mono ?_
  rintro e w1 ⟨rfl, hb1⟩
  cases q <;> (go_wp2; go_ret; exact ⟨rfl, hb1⟩)
end Go.Proofs.Yteolenhgaekihaa.Right
