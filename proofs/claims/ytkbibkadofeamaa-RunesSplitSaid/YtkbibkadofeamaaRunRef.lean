/- What the reference's Pieces, Join, Mid, Right, Find, Reverse, First answer: for every text of at most a million bytes. -/
import Derived.Test.YtkbibkadofeamaaRunSize
import Derived.Test.YtkbibkadofeamaaOwnRows
namespace Go.Proofs.Ytkbibkadofeamaa.Run
open Go.RowKit Kit Reg

theorem infoS : (Try.prog.info? 9).map (fun i => (i.zero, i.size, i.bytes)) = some (some (.string ⟨#[]⟩), 1, 16) := by kernel_rfl
/-- texts, as a row of one's own and as a slice that is read -/
def strs (ws : List (List UInt8)) : List Value := ws.map fun w => .string ⟨w.toArray⟩
theorem strs_snoc (ws : List (List UInt8)) (n : List UInt8) : strs (ws ++ [n]) = strs ws ++ [.string ⟨n.toArray⟩] := by simp [strs]
theorem strs_length (ws : List (List UInt8)) : (strs ws).length = ws.length := by simp [strs]
def OwnS (B : Nat) (v : Value) (ws : List (List UInt8)) (w : World) : Prop := w.ownsRow B 9 1 v ws.length (strs ws)
theorem OwnS.on {B : Nat} {v : Value} {ws : List (List UInt8)} {w w' : World} (h : OwnS B v ws w) (hb : Below w.heap.size w w') : OwnS B v ws w' := own_on h hb
def StrsR (w : World) (A : Option Addr) (ws : List (List UInt8)) : Prop := ws = [] ∨ ∃ g, A = some ⟨g, 0, none⟩ ∧ g < w.heap.size ∧ ∀ i n, ws[i]? = some n → w.cell? ⟨g, i, none⟩ = some (.string ⟨n.toArray⟩)
theorem StrsR.on {w w' : World} {A : Option Addr} {ws : List (List UInt8)} (h : StrsR w A ws) (hb : Below w.heap.size w w') : StrsR w' A ws := by
  rcases h with h | ⟨g, hA, hg, h⟩
  · exact .inl h
  · exact .inr ⟨g, hA, Nat.lt_of_lt_of_le hg hb.size, fun i c hc => (hb.cell (p := ⟨g, i, none⟩) hg).trans (h i c hc)⟩
theorem OwnS.strs {B : Nat} {v : Value} {ws : List (List UInt8)} {w : World} (h : OwnS B v ws w) (n : Nat) (hn : ws.length = n) : ∃ A cap, v = .slice A n cap ∧ StrsR w A ws ∧ n ≤ cap := by
  subst hn
  have h0 := h
  rcases h.2 with ⟨rfl, h1⟩ | ⟨g, cap, cur, rfl, hb, hg, hcap, hrest⟩
  · exact ⟨_, _, by rw [h1], .inl (List.eq_nil_of_length_eq_zero h1), by omega⟩
  · refine ⟨_, _, rfl, .inr ⟨g, rfl, (Array.getElem?_eq_some_iff.1 hg).1, fun i c hc => ?_⟩, hcap⟩
    have hi : i < ws.length := (List.getElem?_eq_some_iff.1 hc).1
    exact (World.ownsRow.cellAt h0 i (by omega)).trans (by simp [Run.strs, hc])
def lenOf : Value → Nat | .string b => b.size | _ => 0
theorem mk_list (t : ByteArray) : t = ⟨t.data.toList.toArray⟩ := bytes_eq (by simp)
theorem str_is {t : ByteArray} {l : List UInt8} (h : t.data.toList = l) : t = ⟨l.toArray⟩ := bytes_eq (by simp [h])

set_option maxRecDepth 100000 in
set_option maxHeartbeats 4000000 in
theorem rpieces_c (s : ByteArray) (l : List UInt8) (hs : s.data.toList = l) (h9 : s.size ≤ 1000000) (w : World) :
    Calls Try.prog 9 #[.string s] w fun e w' => ∃ v, e = .returned v ∧ OwnS w.heap.size v (ps l) w' ∧ Below w.heap.size w w' := by
  obtain ⟨i0, hin, hz0, hz1, hz2⟩ := info_parts infoS
  have hl := len_of hs
  have hpl := ps_len l
  have HS : Hid (∀ (r : ByteArray) m, r.size ≤ 1000000 → szL r.data.toList = m → ∀ w, Calls Try.prog 23 #[.string r] w fun e w' => e = .returned (.int .i64 m) ∧ w = w') := Lib.hid fun r m hr hm w => rsize_c r _ rfl hr m hm w
  have hs0 : Hid (s.data.toList = l.drop (offL l 0)) := Lib.hid (by rw [off_zero, hs, List.drop_zero])
  have HEQ : Hid (∀ k, l.length - offL l k = 0 → ps l = (ps l).take k) := Lib.hid fun k hk => by
    have h1 := off_lt l k
    have h2 := off_le l k
    exact (List.take_of_length_le (by omega)).symm
  clear hs
  go_enter Try.func9, Try.ntmps9
  go_wp2
  go_loopw [0, 3, 4] (fun t o _ wr => ∃ (k : Nat) (r : ByteArray), t = .string r ∧ r.size ≤ 1000000 ∧ k ≤ (ps l).length ∧ Hid (r.data.toList = l.drop (offL l k)) ∧ OwnS w.heap.size o ((ps l).take k) wr ∧ Below w.heap.size w wr) (fun t _ _ _ => lenOf t)
  case atStart => exact ⟨0, s, rfl, h9, Nat.zero_le _, hs0, World.ownsRow_nil _ _ _ _, Below.refl _ _⟩
  case round =>
    obtain ⟨k, r, rfl, hr9, hk, hr, hrow, hb0⟩ := hrel
    have hrl := len_of hr.out
    rw [List.length_drop] at hrl
    have hs0 := hb0.size
    by_cases hpos : 0 < r.size
    · have hkn : k < (ps l).length := (off_lt l k).2 (by omega)
      obtain ⟨m, hm⟩ : ∃ m, szL (l.drop (offL l k)) = m := ⟨_, rfl⟩
      have hmp := sz_pos (drop_ne hkn)
      rw [hm, List.length_drop, hrl] at hmp
      obtain ⟨hm1, hm2⟩ := hmp
      have HC := Lib.hid (HS.out r m hr9 (by rw [hr.out, hm]))
      have HX : Hid (r.extract 0 m = ⟨((l.drop (offL l k)).take m).toArray⟩) := Lib.hid (str_is (by rw [ext_take, hr.out]))
      have HN : Hid ((r.extract m r.size).data.toList = l.drop (offL l (k + 1))) := Lib.hid (by rw [ext_drop, hr.out, off_step hkn, hm, List.drop_drop])
      have HT : Hid ((ps l).take (k + 1) = (ps l).take k ++ [(l.drop (offL l k)).take m]) := Lib.hid (by rw [List.take_add_one, ps_at hkn, hm]; rfl)
      have HL := Lib.hid (strs_snoc ((ps l).take k) ((l.drop (offL l k)).take m))
      have hlen : ((ps l).take k).length = k := by rw [List.length_take]; omega
      have hsz2 : (r.extract m r.size).size = r.size - m := by rw [ByteArray.size_extract]; omega
      have hnew := fun w1 => cell_one_new w1 (.string (r.extract 0 m)) 9
      unfold OwnS at hrow
      rw [hlen] at hrow
      have hd : decide ((0 : Int) < (r.size : Int)) = true := decide_eq_true (by omega)
      have hd2 : decide (0 < r.size) = true := decide_eq_true (by omega)
      clear hm hr hrl
      go_wp2_with fail
      refine (HC.out _).mono ?_
      rintro e w1 ⟨rfl, rfl⟩
      go_wp2_with (at_builtin; refine wpList_append_own_at _ rfl _ _ 24 rfl w.heap.size 9 i0 _ 1 16 Try.underlying24 hin hz0 hz1 hz2 rfl (by decide) _ k (strs ((ps l).take k)) rfl (hrow.alloc _) ⟨wr.heap.size, 0, none⟩ 1 1 [.string (r.extract 0 m)] rfl rfl (hnew wr) (by simp [Value.oneCell']) (by unfold maxLen; omega) (by omega) (by simp; omega) ?_; intro v' w5 hown' hgrow hnil hloc)
      go_roundw
      case rel =>
        refine ⟨k + 1, r.extract m r.size, rfl, by omega, by omega, HN, ?_, ?_⟩
        · unfold OwnS
          rw [HT.out, List.length_append, hlen, HL.out, ← HX.out]
          exact hown'
        · exact (on_alloc hb0 _).grown hgrow (by simp; omega) (fun b e => (World.ownsRow.lt hrow b e).1)
      case measure => simp [lenOf]; omega
    · have hd : decide ((0 : Int) < (r.size : Int)) = false := decide_eq_false (by omega)
      have HE := HEQ.out k (by omega)
      go_wp2
      go_ret
      exact ⟨_, rfl, by rw [HE]; exact hrow, hb0⟩
end Go.Proofs.Ytkbibkadofeamaa.Run
