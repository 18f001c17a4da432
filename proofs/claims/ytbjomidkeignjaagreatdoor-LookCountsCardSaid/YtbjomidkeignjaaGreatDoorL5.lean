/- What is looked for: package look's hit, CountIf, SumIf and MeanIf. Written by wip/gen18g.py.
   What is looked for, the reference's way: its Hit, Count, Sum and Mean. Written by wip/gen18h.py. -/
import Derived.Test.YtbjomidkeignjaaGreatDoorL4
import Derived.Test.YtbjomidkeignjaaGreatDoorCrtLawO
import Derived.Test.YtbjomidkeignjaaGreatDoorGd
namespace Go.Proofs.YtbjomidkeignjaaGreatDoor.Lok
open Go.RowKit Kit Reg Dec Dig Val Fld
open Crt (CLibs CritIs RCritIs hitsV of_fault trims_stars hits_c rhits_c of_any rof_fault)

/-- the values that are hit -/
def hitL (op k2 n2 : Int) (t2 : ByteArray) (L : List Vl) : List Vl := L.filter fun v => hitsV op k2 n2 t2 v.k v.n v.t
theorem hit_hit {op k2 n2 : Int} {t2 : ByteArray} {L : List Vl} {k : Nat} {v : Vl} (h : L[k]? = some v) (h1 : hitsV op k2 n2 t2 v.k v.n v.t = true) : hitL op k2 n2 t2 (L.take (k + 1)) = hitL op k2 n2 t2 (L.take k) ++ [v] := by
  rw [List.take_add_one, h]
  simp [hitL, List.filter_append, h1]
theorem hit_miss {op k2 n2 : Int} {t2 : ByteArray} {L : List Vl} {k : Nat} {v : Vl} (h : L[k]? = some v) (h1 : hitsV op k2 n2 t2 v.k v.n v.t = false) : hitL op k2 n2 t2 (L.take (k + 1)) = hitL op k2 n2 t2 (L.take k) := by
  rw [List.take_add_one, h]
  simp [hitL, List.filter_append, h1]
theorem hit_len (op k2 n2 : Int) (t2 : ByteArray) (L : List Vl) : (hitL op k2 n2 t2 L).length ≤ L.length := List.length_filter_le _ _
theorem hit_mem {op k2 n2 : Int} {t2 : ByteArray} {L : List Vl} {v : Vl} (h : v ∈ hitL op k2 n2 t2 L) : v ∈ L := (List.mem_filter.1 h).1
/-- what hits tell of any value -/
def HitsC (f : FuncId) (op k2 n2 : Int) (t2 : ByteArray) (L : List Vl) : Prop := ∀ (k : Nat) (v : Vl) (w1 : World), L[k]? = some v → Calls Tryz.prog f #[.agg #[.int .i64 op, .int .i64 k2, .int .i64 n2, .string t2], .agg #[.int .i64 v.k, .int .i64 v.n, .string v.t]] w1 (Bit (hitsV op k2 n2 t2 v.k v.n v.t) w1)
/-- the values that are hit, and true -/
def HitEnd (K : List Vl) (ok : Bool) (w : World) : Ending → World → Prop := fun e w' => ∃ A2 m c2, e = .returned (.tuple #[.slice A2 m c2, .bool ok]) ∧ K.length = m ∧ ValsR w' A2 m K ∧ Below w.heap.size w w'

set_option maxRecDepth 100000 in
set_option maxHeartbeats 2000000 in
theorem hit_fault (r c : Int) (A : Option Addr) (n cap : Nat) (bk bn : Int) (bt : ByteArray) (w : World) (HO : ∀ w1, Below w.heap.size w w1 → Calls Tryz.prog 64 #[.agg #[.int .i64 bk, .int .i64 bn, .string bt]] w1 (CritIs 0 0 0 ⟨#[]⟩ false w1)) :
    Calls Tryz.prog 42 #[.agg #[.int .i64 r, .int .i64 c, .slice A n cap], .agg #[.int .i64 bk, .int .i64 bn, .string bt]] w (HitEnd [] false w) := by
  have HO := Lib.hid HO
  have hb0 := below2 w (.cells #[.int .i64 r, .int .i64 c, .slice A n cap] 24) (.cells #[.int .i64 bk, .int .i64 bn, .string bt] 26)
  have ha0 := newAt (w0 := w.alloc (.cells #[.int .i64 r, .int .i64 c, .slice A n cap] 24)) (g := w.heap.size + 1) (by simp) [.int .i64 bk, .int .i64 bn, .string bt] 26
  obtain ⟨x0, x1, x2, _⟩ := ha0.three
  clear ha0
  go_enter Tryz.func42, Tryz.ntmps42
  go_wp2_with fail
  refine (HO.out _ hb0).mono ?_
  rintro e w1 ⟨rfl, hb1⟩
  replace hb0 := on_alloc (on hb0 hb1) (.cells #[.int .i64 0, .int .i64 0, .int .i64 0, .string ⟨#[]⟩] 77)
  clear x0 x1 x2 HO
  go_wp2_with fail
  go_ret2
  exact ⟨none, 0, 0, rfl, rfl, vals_nil _ _, hb0⟩
set_option maxRecDepth 100000 in
set_option maxHeartbeats 2000000 in
theorem hit_in (r c : Int) (A : Option Addr) (n cap : Nat) (bk bn : Int) (bt : ByteArray) (op k2 n2 : Int) (t2 : ByteArray) (L : List Vl) (w : World) (HO : ∀ w1, Below w.heap.size w w1 → Calls Tryz.prog 64 #[.agg #[.int .i64 bk, .int .i64 bn, .string bt]] w1 (CritIs op k2 n2 t2 true w1)) (HH : HitsC 65 op k2 n2 t2 L) (hz : ValsR w A n L) :
    Calls Tryz.prog 42 #[.agg #[.int .i64 r, .int .i64 c, .slice A n cap], .agg #[.int .i64 bk, .int .i64 bn, .string bt]] w (HitEnd (hitL op k2 n2 t2 L) true w) := by
  obtain ⟨i0, hi, hz0, hz1, hz2⟩ := info_parts infoV
  have HO := Lib.hid HO
  have HH := Lib.hid HH
  have HZ := Lib.hid hz
  have hn9 := hz.2.1
  have HLn := Lib.hid hz.1
  have HFit := Lib.hid hz.2.2.1
  have hb0 := below2 w (.cells #[.int .i64 r, .int .i64 c, .slice A n cap] 24) (.cells #[.int .i64 bk, .int .i64 bn, .string bt] 26)
  have ht0 := (CellsAt.new w [.int .i64 r, .int .i64 c, .slice A n cap] 24).on_alloc (.cells #[.int .i64 bk, .int .i64 bn, .string bt] 26)
  have ha0 := newAt (w0 := w.alloc (.cells #[.int .i64 r, .int .i64 c, .slice A n cap] 24)) (g := w.heap.size + 1) (by simp) [.int .i64 bk, .int .i64 bn, .string bt] 26
  obtain ⟨x0, x1, x2, _⟩ := ha0.three
  clear ha0 hz
  go_enter Tryz.func42, Tryz.ntmps42
  go_wp2_with fail
  generalize (w.alloc (.cells #[.int .i64 r, .int .i64 c, .slice A n cap] 24)).alloc (.cells #[.int .i64 bk, .int .i64 bn, .string bt] 26) = W at *
  refine (HO.out _ hb0).mono ?_
  rintro e w1 ⟨rfl, hb1⟩
  have hc0 := (CellsAt.new w1 [.int .i64 op, .int .i64 k2, .int .i64 n2, .string t2] 77).on_alloc (.cells #[] 26)
  replace ht0 := ((ht0.on hb1).on_alloc (.cells #[.int .i64 op, .int .i64 k2, .int .i64 n2, .string t2] 77)).on_alloc (.cells #[] 26)
  have hrow := World.ownsRow_lit (base := w1.heap.size + 1) (e := 26) (size := 3) (w1.alloc (.cells #[.int .i64 op, .int .i64 k2, .int .i64 n2, .string t2] 77)) #[] 0 (by simp) (by simp [maxLen]) rfl
  rw [show (w1.alloc (.cells #[.int .i64 op, .int .i64 k2, .int .i64 n2, .string t2] 77)).heap.size = w1.heap.size + 1 by simp] at hrow
  have hbw := on hb0 hb1
  replace hb0 := on_alloc (on_alloc hbw (.cells #[.int .i64 op, .int .i64 k2, .int .i64 n2, .string t2] 77)) (.cells #[] 26)
  have hs2 := hbw.size
  clear x0 x1 x2 HO
  obtain ⟨t0, t1, t2', _⟩ := ht0.three
  go_wp2_with fail
  clear t0 t1 t2' ht0
  generalize (w1.alloc (.cells #[.int .i64 op, .int .i64 k2, .int .i64 n2, .string t2] 77)).alloc (.cells #[] 26) = W2 at *
  go_loopw [8, 22] (fun o i wr => ∃ k : Nat, k ≤ n ∧ i = .int .i64 k ∧ OwnV (w1.heap.size + 1) o (hitL op k2 n2 t2 (L.take k)) wr ∧ Below w.heap.size w wr ∧ CellsAt wr w1.heap.size [.int .i64 op, .int .i64 k2, .int .i64 n2, .string t2]) (fun _ i _ => n - (intOf i).toNat)
  case atStart => exact ⟨0, Nat.zero_le _, rfl, hrow, hb0, hc0⟩
  case round =>
    clear hb0 hrow hc0
    obtain ⟨k, hk, rfl, hrow, hb0, hc0⟩ := hrel
    have hlen : (hitL op k2 n2 t2 (L.take k)).length ≤ k := Nat.le_trans (hit_len _ _ _ _ _) (by rw [List.length_take]; omega)
    have hs0 := hb0.size
    by_cases hlt : k < n
    · obtain ⟨v, hv⟩ := HZ.out.get hlt
      have HH2 := Lib.hid (fun w1 => HH.out k v w1 hv)
      obtain ⟨b, o, rfl, hb, c0, c1, c2⟩ := (HZ.out.on hb0).at hv
      have HV := Lib.hid hv
      have HY : Hid (hitsV op k2 n2 t2 v.k v.n v.t = true → hitL op k2 n2 t2 (L.take (k + 1)) = hitL op k2 n2 t2 (L.take k) ++ [v]) := Lib.hid (hit_hit hv)
      have HN : Hid (hitsV op k2 n2 t2 v.k v.n v.t = false → hitL op k2 n2 t2 (L.take (k + 1)) = hitL op k2 n2 t2 (L.take k)) := Lib.hid (hit_miss hv)
      obtain ⟨vk, vn, vt⟩ := v
      dsimp only at c0 c1 c2 HH2 HY HN
      generalize hbit : hitsV op k2 n2 t2 vk vn vt = bit at *
      have hX := CellsAt.new wr [.int .i64 vk, .int .i64 vn, .string vt] 26
      obtain ⟨y0, y1, y2, _⟩ := hX.three
      replace hrow := hrow.on (below1 wr (.cells #[.int .i64 vk, .int .i64 vn, .string vt] 26))
      replace hb0 := on_alloc hb0 (.cells #[.int .i64 vk, .int .i64 vn, .string vt] 26)
      have hc1 := hc0.on_alloc (.cells #[.int .i64 vk, .int .i64 vn, .string vt] 26)
      obtain ⟨q0, q1, q2, q3, _⟩ := hc1.four
      have hl0 := hc0.1
      clear hv HH HV hbit
      go_wp2_with fail
      refine (HH2.out _).mono ?_
      rintro e w3 ⟨rfl, hb3⟩
      clear y0 y1 y2 q0 q1 q2 q3 c0 c1 c2 HH2 hc0
      replace hX := hX.on hb3
      replace hrow := hrow.on hb3
      replace hb0 := on hb0 hb3
      replace hc1 := hc1.on hb3
      obtain ⟨y0, y1, y2, _⟩ := hX.three
      have hsX := hX.1
      have hs3 := hb0.size
      have hs4 := hb3.size
      have hlx : (wr.alloc (.cells #[.int .i64 vk, .int .i64 vn, .string vt] 26)).heap.size = wr.heap.size + 1 := by simp
      cases bit
      · have HN2 := Lib.hid (HN.out rfl)
        clear HN HY hb3 hlx hs4
        go_wp2_with fail
        go_roundw
        case rel => exact ⟨k + 1, by omega, by go_num, by rw [HN2.out]; exact hrow, hb0, hc1⟩
        case measure => simp [intOf]; omega
      · have HN2 := Lib.hid (HY.out rfl)
        clear HN HY hb3
        generalize hitL op k2 n2 t2 (L.take k) = K at *
        unfold OwnV at hrow
        go_wp2_with (at_builtin; refine wpList_append_own _ rfl _ _ 22 rfl (w1.heap.size + 1) 26 i0 _ 3 32 Tryz.underlying22 hi hz0 hz1 hz2 rfl (by decide) _ _ _ rfl (hrow.alloc _) ⟨_, 0, none⟩ 1 1 [.int .i64 vk, .int .i64 vn, .string vt] rfl rfl (three_new (by simp) _ _ _ _) (by simp [Value.oneCell']) (by unfold maxLen; omega) (by omega) (by simp; omega) ?_)
        intro v1 w4 hown1 hg1 _
        have hb4 := own_below hrow hb0 (by omega) hg1
        have hc4 := cells_grown (hc1.on_alloc _) hg1 (own_far hrow (by omega))
        have hrow1 := own_snoc (L := K) ⟨vk, vn, vt⟩ hown1
        clear hown1 hg1 hrow hb0 hc1 y0 y1 y2 hX
        go_wp2
        go_roundw
        case rel => exact ⟨k + 1, by omega, by go_num, by rw [HN2.out]; exact hrow1, hb4, hc4⟩
        case measure => simp [intOf]; omega
    · obtain rfl : k = n := by omega
      rw [List.take_of_length_le (by rw [HLn.out]; omega)] at hrow hlen
      obtain ⟨A2, c2, rfl, hZ2⟩ := hrow.reads (n := (hitL op k2 n2 t2 L).length) rfl (by omega) (fun x hx => HFit.out x (hit_mem hx))
      have HZ2 := Lib.hid hZ2
      clear hrow hZ2 HH
      go_wp2_with fail
      go_ret2
      exact ⟨A2, _, c2, rfl, rfl, HZ2.out, hb0⟩
set_option maxRecDepth 100000 in
set_option maxHeartbeats 2000000 in
theorem countif_fault (r c : Int) (A : Option Addr) (n cap : Nat) (bk bn : Int) (bt : ByteArray) (w : World) (HH : ∀ w1, Below w.heap.size w w1 → Calls Tryz.prog 42 #[.agg #[.int .i64 r, .int .i64 c, .slice A n cap], .agg #[.int .i64 bk, .int .i64 bn, .string bt]] w1 (HitEnd [] false w1)) :
    Calls Tryz.prog 21 #[.agg #[.int .i64 r, .int .i64 c, .slice A n cap], .agg #[.int .i64 bk, .int .i64 bn, .string bt]] w (ValIs bk bn bt w) := by
  have HH := Lib.hid HH
  have ht0 := ((CellsAt.new w [.int .i64 r, .int .i64 c, .slice A n cap] 24).on_alloc (.cells #[.int .i64 bk, .int .i64 bn, .string bt] 26)).on_alloc (.cells #[.int .i64 0, .int .i64 0, .string ⟨#[]⟩] 26)
  have ha0 := (newAt (w0 := w.alloc (.cells #[.int .i64 r, .int .i64 c, .slice A n cap] 24)) (g := w.heap.size + 1) (by simp) [.int .i64 bk, .int .i64 bn, .string bt] 26).on_alloc (.cells #[.int .i64 0, .int .i64 0, .string ⟨#[]⟩] 26)
  have hr0 := newAt (w0 := (w.alloc (.cells #[.int .i64 r, .int .i64 c, .slice A n cap] 24)).alloc (.cells #[.int .i64 bk, .int .i64 bn, .string bt] 26)) (g := w.heap.size + 2) (by simp) [.int .i64 0, .int .i64 0, .string ⟨#[]⟩] 26
  have hb0 := below3 w (.cells #[.int .i64 r, .int .i64 c, .slice A n cap] 24) (.cells #[.int .i64 bk, .int .i64 bn, .string bt] 26) (.cells #[.int .i64 0, .int .i64 0, .string ⟨#[]⟩] 26)
  obtain ⟨t0, t1, t2, _⟩ := ht0.three
  obtain ⟨x0, x1, x2, _⟩ := ha0.three
  clear ht0
  go_enter Tryz.func21, Tryz.ntmps21
  go_wp2_with fail
  generalize ((w.alloc (.cells #[.int .i64 r, .int .i64 c, .slice A n cap] 24)).alloc (.cells #[.int .i64 bk, .int .i64 bn, .string bt] 26)).alloc (.cells #[.int .i64 0, .int .i64 0, .string ⟨#[]⟩] 26) = W at *
  refine (HH.out _ hb0).mono ?_
  rintro e w1 ⟨A2, m, c2, rfl, _, _, hb1⟩
  clear t0 t1 t2 x0 x1 x2 HH
  replace ha0 := ha0.on hb1
  replace hr0 := hr0.on hb1
  replace hb0 := on hb0 hb1
  obtain ⟨x0, x1, x2, _⟩ := ha0.three
  obtain ⟨p0, p1, p2, f0, f1, f2⟩ := hr0.three
  have hl := hr0.1
  obtain ⟨z0, z1, z2⟩ := three_set (u := .int .i64 bk) (v := .int .i64 bn) (r := .string bt) p0 p1 p2
  have hb5 := set3 hb0 (b := w.heap.size + 2) (by omega) (.int .i64 bk) (.int .i64 bn) (.string bt)
  clear hb1 hb0 hr0
  go_wp2_with fail
  exact bodyPost_ret (v := .agg #[.int .i64 bk, .int .i64 bn, .string bt]) (by simp [results, Tryz.results21, go_sem, z0, z1, z2]) rfl ⟨rfl, hb5⟩
theorem count_scaled {m : Nat} (h : m ≤ 1000) : scaledD (m : Int) 10000 1 = ((m : Int) * 10000, true) := by
  have hr : roundN ((m : Int).natAbs * (10000 : Int).natAbs) (1 : Int).natAbs = m * 10000 := by
    show roundN (m * 10000) 1 = m * 10000
    unfold roundN
    rw [Nat.mod_one, Nat.div_one, if_neg (by omega)]
  rw [scaledD_in (by omega) (by omega) (by omega) (by omega) hr (by omega)]
  have hn : negs (m : Int) 10000 1 = false := by
    unfold negs
    rw [decide_eq_false (by omega)]
    rfl
  rw [hn]
  show (((m * 10000 : Nat) : Int), true) = _
  rw [Int.natCast_mul]
  rfl
theorem count_got {m : Nat} (_h : m ≤ 1000) : gotV ((m : Int) * 10000) true = (1, (m : Int) * 10000) := by
  unfold gotV
  rw [if_pos rfl]
  exact num_in (mayD_yes (by omega))
set_option maxRecDepth 100000 in
set_option maxHeartbeats 2000000 in
theorem countif_in (r c : Int) (A : Option Addr) (n cap : Nat) (bk bn : Int) (bt : ByteArray) (K : List Vl) (w : World) (HH : ∀ w1, Below w.heap.size w w1 → Calls Tryz.prog 42 #[.agg #[.int .i64 r, .int .i64 c, .slice A n cap], .agg #[.int .i64 bk, .int .i64 bn, .string bt]] w1 (HitEnd K true w1)) :
    Calls Tryz.prog 21 #[.agg #[.int .i64 r, .int .i64 c, .slice A n cap], .agg #[.int .i64 bk, .int .i64 bn, .string bt]] w (ValIs 1 ((K.length : Int) * 10000) ⟨#[]⟩ w) := by
  have HH := Lib.hid HH
  have HD : Hid (∀ m : Nat, m ≤ 1000 → ∀ w1, Calls Tryz.prog 44 #[.int .i64 (m : Int)] w1 (TwoD ((m : Int) * 10000) true w1)) := Lib.hid (fun m h w1 => of_c (m : Int) (by omega) ((m : Int) * 10000) true (count_scaled h) w1)
  have HG : Hid (∀ m : Nat, m ≤ 1000 → ∀ w1, Calls Tryz.prog 43 #[.int .i64 ((m : Int) * 10000), .bool true] w1 (ValIs 1 ((m : Int) * 10000) ⟨#[]⟩ w1)) := Lib.hid (fun m h w1 => got_c ((m : Int) * 10000) true 1 ((m : Int) * 10000) (count_got h) w1)
  have ht0 := ((CellsAt.new w [.int .i64 r, .int .i64 c, .slice A n cap] 24).on_alloc (.cells #[.int .i64 bk, .int .i64 bn, .string bt] 26)).on_alloc (.cells #[.int .i64 0, .int .i64 0, .string ⟨#[]⟩] 26)
  have ha0 := (newAt (w0 := w.alloc (.cells #[.int .i64 r, .int .i64 c, .slice A n cap] 24)) (g := w.heap.size + 1) (by simp) [.int .i64 bk, .int .i64 bn, .string bt] 26).on_alloc (.cells #[.int .i64 0, .int .i64 0, .string ⟨#[]⟩] 26)
  have hr0 := newAt (w0 := (w.alloc (.cells #[.int .i64 r, .int .i64 c, .slice A n cap] 24)).alloc (.cells #[.int .i64 bk, .int .i64 bn, .string bt] 26)) (g := w.heap.size + 2) (by simp) [.int .i64 0, .int .i64 0, .string ⟨#[]⟩] 26
  have hb0 := below3 w (.cells #[.int .i64 r, .int .i64 c, .slice A n cap] 24) (.cells #[.int .i64 bk, .int .i64 bn, .string bt] 26) (.cells #[.int .i64 0, .int .i64 0, .string ⟨#[]⟩] 26)
  obtain ⟨t0, t1, t2, _⟩ := ht0.three
  obtain ⟨x0, x1, x2, _⟩ := ha0.three
  clear ht0 ha0
  go_enter Tryz.func21, Tryz.ntmps21
  go_wp2_with fail
  generalize ((w.alloc (.cells #[.int .i64 r, .int .i64 c, .slice A n cap] 24)).alloc (.cells #[.int .i64 bk, .int .i64 bn, .string bt] 26)).alloc (.cells #[.int .i64 0, .int .i64 0, .string ⟨#[]⟩] 26) = W at *
  refine (HH.out _ hb0).mono ?_
  rintro e w1 ⟨A2, m, c2, rfl, hml, hz1, hb1⟩
  have hm9 := hz1.2.1
  clear t0 t1 t2 x0 x1 x2 HH
  replace hr0 := hr0.on hb1
  replace hb0 := on hb0 hb1
  have HD2 := Lib.hid (HD.out m hm9)
  have HG2 := Lib.hid (HG.out m hm9)
  obtain ⟨q, hq⟩ : ∃ q, (m : Int) * 10000 = q := ⟨_, rfl⟩
  rw [hq] at HD2 HG2
  subst hml
  clear HD HG hb1
  go_wp2_with fail
  refine (HD2.out _).mono ?_
  rintro e w2 ⟨rfl, hb2⟩
  replace hb2 := drawn_below hb2
  replace hr0 := hr0.on hb2
  replace hb0 := on hb0 hb2
  clear HD2 hb2
  go_wp2_with fail
  refine (HG2.out _).mono ?_
  rintro e w3 ⟨rfl, hb3⟩
  replace hr0 := hr0.on hb3
  replace hb0 := on hb0 hb3
  clear HG2 hb3
  obtain ⟨p0, p1, p2, f0, f1, f2⟩ := hr0.three
  have hl := hr0.1
  obtain ⟨z0, z1, z2⟩ := three_set (u := .int .i64 1) (v := .int .i64 q) (r := .string ⟨#[]⟩) p0 p1 p2
  have hb5 := set3 hb0 (b := w.heap.size + 2) (by omega) (.int .i64 1) (.int .i64 q) (.string ⟨#[]⟩)
  clear hb0 hr0
  go_wp2_with fail
  rw [hq]
  exact bodyPost_ret (v := .agg #[.int .i64 1, .int .i64 q, .string ⟨#[]⟩]) (by simp [results, Tryz.results21, go_sem, z0, z1, z2]) rfl ⟨rfl, hb5⟩
set_option maxRecDepth 100000 in
set_option maxHeartbeats 2000000 in
theorem sumif_fault (r c : Int) (A : Option Addr) (n cap : Nat) (bk bn : Int) (bt : ByteArray) (w : World) (HH : ∀ w1, Below w.heap.size w w1 → Calls Tryz.prog 42 #[.agg #[.int .i64 r, .int .i64 c, .slice A n cap], .agg #[.int .i64 bk, .int .i64 bn, .string bt]] w1 (HitEnd [] false w1)) :
    Calls Tryz.prog 23 #[.agg #[.int .i64 r, .int .i64 c, .slice A n cap], .agg #[.int .i64 bk, .int .i64 bn, .string bt]] w (ValIs bk bn bt w) := by
  have HH := Lib.hid HH
  have ht0 := ((CellsAt.new w [.int .i64 r, .int .i64 c, .slice A n cap] 24).on_alloc (.cells #[.int .i64 bk, .int .i64 bn, .string bt] 26)).on_alloc (.cells #[.int .i64 0, .int .i64 0, .string ⟨#[]⟩] 26)
  have ha0 := (newAt (w0 := w.alloc (.cells #[.int .i64 r, .int .i64 c, .slice A n cap] 24)) (g := w.heap.size + 1) (by simp) [.int .i64 bk, .int .i64 bn, .string bt] 26).on_alloc (.cells #[.int .i64 0, .int .i64 0, .string ⟨#[]⟩] 26)
  have hr0 := newAt (w0 := (w.alloc (.cells #[.int .i64 r, .int .i64 c, .slice A n cap] 24)).alloc (.cells #[.int .i64 bk, .int .i64 bn, .string bt] 26)) (g := w.heap.size + 2) (by simp) [.int .i64 0, .int .i64 0, .string ⟨#[]⟩] 26
  have hb0 := below3 w (.cells #[.int .i64 r, .int .i64 c, .slice A n cap] 24) (.cells #[.int .i64 bk, .int .i64 bn, .string bt] 26) (.cells #[.int .i64 0, .int .i64 0, .string ⟨#[]⟩] 26)
  obtain ⟨t0, t1, t2, _⟩ := ht0.three
  obtain ⟨x0, x1, x2, _⟩ := ha0.three
  clear ht0
  go_enter Tryz.func23, Tryz.ntmps23
  go_wp2_with fail
  generalize ((w.alloc (.cells #[.int .i64 r, .int .i64 c, .slice A n cap] 24)).alloc (.cells #[.int .i64 bk, .int .i64 bn, .string bt] 26)).alloc (.cells #[.int .i64 0, .int .i64 0, .string ⟨#[]⟩] 26) = W at *
  refine (HH.out _ hb0).mono ?_
  rintro e w1 ⟨A2, m, c2, rfl, _, _, hb1⟩
  clear t0 t1 t2 x0 x1 x2 HH
  replace ha0 := ha0.on hb1
  replace hr0 := hr0.on hb1
  replace hb0 := on hb0 hb1
  obtain ⟨x0, x1, x2, _⟩ := ha0.three
  obtain ⟨p0, p1, p2, f0, f1, f2⟩ := hr0.three
  have hl := hr0.1
  obtain ⟨z0, z1, z2⟩ := three_set (u := .int .i64 bk) (v := .int .i64 bn) (r := .string bt) p0 p1 p2
  have hb5 := set3 hb0 (b := w.heap.size + 2) (by omega) (.int .i64 bk) (.int .i64 bn) (.string bt)
  clear hb1 hb0 hr0
  go_wp2_with fail
  exact bodyPost_ret (v := .agg #[.int .i64 bk, .int .i64 bn, .string bt]) (by simp [results, Tryz.results23, go_sem, z0, z1, z2]) rfl ⟨rfl, hb5⟩
set_option maxRecDepth 100000 in
set_option maxHeartbeats 2000000 in
theorem sumif_in (r c : Int) (A : Option Addr) (n cap : Nat) (bk bn : Int) (bt : ByteArray) (K : List Vl) (hm : ∀ v ∈ K, v.may) (k0 n0 : Int) (hv : allV addD 0 K = (k0, n0)) (w : World) (HH : ∀ w1, Below w.heap.size w w1 → Calls Tryz.prog 42 #[.agg #[.int .i64 r, .int .i64 c, .slice A n cap], .agg #[.int .i64 bk, .int .i64 bn, .string bt]] w1 (HitEnd K true w1)) :
    Calls Tryz.prog 23 #[.agg #[.int .i64 r, .int .i64 c, .slice A n cap], .agg #[.int .i64 bk, .int .i64 bn, .string bt]] w (ValIs k0 n0 ⟨#[]⟩ w) := by
  have HH := Lib.hid HH
  have HD := Lib.hid (fun A m c2 w1 hz => sum_c A m c2 K hm k0 n0 hv w1 hz)
  have ht0 := ((CellsAt.new w [.int .i64 r, .int .i64 c, .slice A n cap] 24).on_alloc (.cells #[.int .i64 bk, .int .i64 bn, .string bt] 26)).on_alloc (.cells #[.int .i64 0, .int .i64 0, .string ⟨#[]⟩] 26)
  have ha0 := (newAt (w0 := w.alloc (.cells #[.int .i64 r, .int .i64 c, .slice A n cap] 24)) (g := w.heap.size + 1) (by simp) [.int .i64 bk, .int .i64 bn, .string bt] 26).on_alloc (.cells #[.int .i64 0, .int .i64 0, .string ⟨#[]⟩] 26)
  have hr0 := newAt (w0 := (w.alloc (.cells #[.int .i64 r, .int .i64 c, .slice A n cap] 24)).alloc (.cells #[.int .i64 bk, .int .i64 bn, .string bt] 26)) (g := w.heap.size + 2) (by simp) [.int .i64 0, .int .i64 0, .string ⟨#[]⟩] 26
  have hb0 := below3 w (.cells #[.int .i64 r, .int .i64 c, .slice A n cap] 24) (.cells #[.int .i64 bk, .int .i64 bn, .string bt] 26) (.cells #[.int .i64 0, .int .i64 0, .string ⟨#[]⟩] 26)
  obtain ⟨t0, t1, t2, _⟩ := ht0.three
  obtain ⟨x0, x1, x2, _⟩ := ha0.three
  clear ht0 ha0
  go_enter Tryz.func23, Tryz.ntmps23
  go_wp2_with fail
  generalize ((w.alloc (.cells #[.int .i64 r, .int .i64 c, .slice A n cap] 24)).alloc (.cells #[.int .i64 bk, .int .i64 bn, .string bt] 26)).alloc (.cells #[.int .i64 0, .int .i64 0, .string ⟨#[]⟩] 26) = W at *
  refine (HH.out _ hb0).mono ?_
  rintro e w1 ⟨A2, m, c2, rfl, hml, hz1, hb1⟩
  have hm9 := hz1.2.1
  clear t0 t1 t2 x0 x1 x2 HH
  replace hr0 := hr0.on hb1
  replace hb0 := on hb0 hb1
  clear hb1 hml
  go_wp2_with fail
  refine (HD.out _ _ _ _ hz1).mono ?_
  rintro e w2 ⟨rfl, hb2⟩
  replace hr0 := hr0.on hb2
  replace hb0 := on hb0 hb2
  clear HD hb2
  obtain ⟨p0, p1, p2, f0, f1, f2⟩ := hr0.three
  have hl := hr0.1
  obtain ⟨z0, z1, z2⟩ := three_set (u := .int .i64 k0) (v := .int .i64 n0) (r := .string ⟨#[]⟩) p0 p1 p2
  have hb5 := set3 hb0 (b := w.heap.size + 2) (by omega) (.int .i64 k0) (.int .i64 n0) (.string ⟨#[]⟩)
  clear hb0 hr0
  go_wp2_with fail
  exact bodyPost_ret (v := .agg #[.int .i64 k0, .int .i64 n0, .string ⟨#[]⟩]) (by simp [results, Tryz.results23, go_sem, z0, z1, z2]) rfl ⟨rfl, hb5⟩
set_option maxRecDepth 100000 in
set_option maxHeartbeats 2000000 in
theorem meanif_fault (r c : Int) (A : Option Addr) (n cap : Nat) (bk bn : Int) (bt : ByteArray) (w : World) (HH : ∀ w1, Below w.heap.size w w1 → Calls Tryz.prog 42 #[.agg #[.int .i64 r, .int .i64 c, .slice A n cap], .agg #[.int .i64 bk, .int .i64 bn, .string bt]] w1 (HitEnd [] false w1)) :
    Calls Tryz.prog 25 #[.agg #[.int .i64 r, .int .i64 c, .slice A n cap], .agg #[.int .i64 bk, .int .i64 bn, .string bt]] w (ValIs bk bn bt w) := by
  have HH := Lib.hid HH
  have ht0 := ((CellsAt.new w [.int .i64 r, .int .i64 c, .slice A n cap] 24).on_alloc (.cells #[.int .i64 bk, .int .i64 bn, .string bt] 26)).on_alloc (.cells #[.int .i64 0, .int .i64 0, .string ⟨#[]⟩] 26)
  have ha0 := (newAt (w0 := w.alloc (.cells #[.int .i64 r, .int .i64 c, .slice A n cap] 24)) (g := w.heap.size + 1) (by simp) [.int .i64 bk, .int .i64 bn, .string bt] 26).on_alloc (.cells #[.int .i64 0, .int .i64 0, .string ⟨#[]⟩] 26)
  have hr0 := newAt (w0 := (w.alloc (.cells #[.int .i64 r, .int .i64 c, .slice A n cap] 24)).alloc (.cells #[.int .i64 bk, .int .i64 bn, .string bt] 26)) (g := w.heap.size + 2) (by simp) [.int .i64 0, .int .i64 0, .string ⟨#[]⟩] 26
  have hb0 := below3 w (.cells #[.int .i64 r, .int .i64 c, .slice A n cap] 24) (.cells #[.int .i64 bk, .int .i64 bn, .string bt] 26) (.cells #[.int .i64 0, .int .i64 0, .string ⟨#[]⟩] 26)
  obtain ⟨t0, t1, t2, _⟩ := ht0.three
  obtain ⟨x0, x1, x2, _⟩ := ha0.three
  clear ht0
  go_enter Tryz.func25, Tryz.ntmps25
  go_wp2_with fail
  generalize ((w.alloc (.cells #[.int .i64 r, .int .i64 c, .slice A n cap] 24)).alloc (.cells #[.int .i64 bk, .int .i64 bn, .string bt] 26)).alloc (.cells #[.int .i64 0, .int .i64 0, .string ⟨#[]⟩] 26) = W at *
  refine (HH.out _ hb0).mono ?_
  rintro e w1 ⟨A2, m, c2, rfl, _, _, hb1⟩
  clear t0 t1 t2 x0 x1 x2 HH
  replace ha0 := ha0.on hb1
  replace hr0 := hr0.on hb1
  replace hb0 := on hb0 hb1
  obtain ⟨x0, x1, x2, _⟩ := ha0.three
  obtain ⟨p0, p1, p2, f0, f1, f2⟩ := hr0.three
  have hl := hr0.1
  obtain ⟨z0, z1, z2⟩ := three_set (u := .int .i64 bk) (v := .int .i64 bn) (r := .string bt) p0 p1 p2
  have hb5 := set3 hb0 (b := w.heap.size + 2) (by omega) (.int .i64 bk) (.int .i64 bn) (.string bt)
  clear hb1 hb0 hr0
  go_wp2_with fail
  exact bodyPost_ret (v := .agg #[.int .i64 bk, .int .i64 bn, .string bt]) (by simp [results, Tryz.results25, go_sem, z0, z1, z2]) rfl ⟨rfl, hb5⟩
set_option maxRecDepth 100000 in
set_option maxHeartbeats 2000000 in
theorem meanif_in (r c : Int) (A : Option Addr) (n cap : Nat) (bk bn : Int) (bt : ByteArray) (K : List Vl) (hm : ∀ v ∈ K, v.may) (k0 n0 : Int) (hv : meanV K = (k0, n0)) (w : World) (HH : ∀ w1, Below w.heap.size w w1 → Calls Tryz.prog 42 #[.agg #[.int .i64 r, .int .i64 c, .slice A n cap], .agg #[.int .i64 bk, .int .i64 bn, .string bt]] w1 (HitEnd K true w1)) :
    Calls Tryz.prog 25 #[.agg #[.int .i64 r, .int .i64 c, .slice A n cap], .agg #[.int .i64 bk, .int .i64 bn, .string bt]] w (ValIs k0 n0 ⟨#[]⟩ w) := by
  have HH := Lib.hid HH
  have HD := Lib.hid (fun A m c2 w1 hz => mean_c A m c2 K hm k0 n0 hv w1 hz)
  have ht0 := ((CellsAt.new w [.int .i64 r, .int .i64 c, .slice A n cap] 24).on_alloc (.cells #[.int .i64 bk, .int .i64 bn, .string bt] 26)).on_alloc (.cells #[.int .i64 0, .int .i64 0, .string ⟨#[]⟩] 26)
  have ha0 := (newAt (w0 := w.alloc (.cells #[.int .i64 r, .int .i64 c, .slice A n cap] 24)) (g := w.heap.size + 1) (by simp) [.int .i64 bk, .int .i64 bn, .string bt] 26).on_alloc (.cells #[.int .i64 0, .int .i64 0, .string ⟨#[]⟩] 26)
  have hr0 := newAt (w0 := (w.alloc (.cells #[.int .i64 r, .int .i64 c, .slice A n cap] 24)).alloc (.cells #[.int .i64 bk, .int .i64 bn, .string bt] 26)) (g := w.heap.size + 2) (by simp) [.int .i64 0, .int .i64 0, .string ⟨#[]⟩] 26
  have hb0 := below3 w (.cells #[.int .i64 r, .int .i64 c, .slice A n cap] 24) (.cells #[.int .i64 bk, .int .i64 bn, .string bt] 26) (.cells #[.int .i64 0, .int .i64 0, .string ⟨#[]⟩] 26)
  obtain ⟨t0, t1, t2, _⟩ := ht0.three
  obtain ⟨x0, x1, x2, _⟩ := ha0.three
  clear ht0 ha0
  go_enter Tryz.func25, Tryz.ntmps25
  go_wp2_with fail
  generalize ((w.alloc (.cells #[.int .i64 r, .int .i64 c, .slice A n cap] 24)).alloc (.cells #[.int .i64 bk, .int .i64 bn, .string bt] 26)).alloc (.cells #[.int .i64 0, .int .i64 0, .string ⟨#[]⟩] 26) = W at *
  refine (HH.out _ hb0).mono ?_
  rintro e w1 ⟨A2, m, c2, rfl, hml, hz1, hb1⟩
  have hm9 := hz1.2.1
  clear t0 t1 t2 x0 x1 x2 HH
  replace hr0 := hr0.on hb1
  replace hb0 := on hb0 hb1
  clear hb1 hml
  go_wp2_with fail
  refine (HD.out _ _ _ _ hz1).mono ?_
  rintro e w2 ⟨rfl, hb2⟩
  replace hr0 := hr0.on hb2
  replace hb0 := on hb0 hb2
  clear HD hb2
  obtain ⟨p0, p1, p2, f0, f1, f2⟩ := hr0.three
  have hl := hr0.1
  obtain ⟨z0, z1, z2⟩ := three_set (u := .int .i64 k0) (v := .int .i64 n0) (r := .string ⟨#[]⟩) p0 p1 p2
  have hb5 := set3 hb0 (b := w.heap.size + 2) (by omega) (.int .i64 k0) (.int .i64 n0) (.string ⟨#[]⟩)
  clear hb0 hr0
  go_wp2_with fail
  exact bodyPost_ret (v := .agg #[.int .i64 k0, .int .i64 n0, .string ⟨#[]⟩]) (by simp [results, Tryz.results25, go_sem, z0, z1, z2]) rfl ⟨rfl, hb5⟩
end Go.Proofs.YtbjomidkeignjaaGreatDoor.Lok
namespace Go.Proofs.YtbjomidkeignjaaGreatDoor.Lok
open Go.RowKit Kit Reg Dec Dig Val Fld
open Crt (CLibs CritIs RCritIs hitsV)

def RHitEnd (K : List Vl) (w : World) : Ending → World → Prop := fun e w' => ∃ A2 m c2, e = .returned (.slice A2 m c2) ∧ K.length = m ∧ ValsR w' A2 m K ∧ Below w.heap.size w w'

set_option maxRecDepth 100000 in
set_option maxHeartbeats 4000000 in
theorem rhit_in (r c : Int) (A : Option Addr) (n cap : Nat) (bk bn : Int) (bt : ByteArray) (op k2 n2 : Int) (t2 : ByteArray) (h0 : (op == 0) = false) (L : List Vl) (w : World) (HO : ∀ w1, Calls Tryz.prog 67 #[.agg #[.int .i64 bk, .int .i64 bn, .string bt]] w1 (RCritIs op k2 n2 t2 w1)) (HH : HitsC 68 op k2 n2 t2 L) (hz : ValsR w A n L) :
    Calls Tryz.prog 46 #[.agg #[.int .i64 r, .int .i64 c, .slice A n cap], .agg #[.int .i64 bk, .int .i64 bn, .string bt]] w (RHitEnd (hitL op k2 n2 t2 L) w) := by
  obtain ⟨i0, hi, hz0, hz1, hz2⟩ := info_parts infoV
  have h1 : (op != 0) = true := by simp only [bne, h0]; rfl
  have HO := Lib.hid HO
  have HH := Lib.hid HH
  have HZ := Lib.hid hz
  have hn9 := hz.2.1
  have HLn := Lib.hid hz.1
  have HFit := Lib.hid hz.2.2.1
  have hb0 := below2 w (.cells #[.int .i64 r, .int .i64 c, .slice A n cap] 24) (.cells #[.int .i64 bk, .int .i64 bn, .string bt] 26)
  have ht0 := (CellsAt.new w [.int .i64 r, .int .i64 c, .slice A n cap] 24).on_alloc (.cells #[.int .i64 bk, .int .i64 bn, .string bt] 26)
  have ha0 := newAt (w0 := w.alloc (.cells #[.int .i64 r, .int .i64 c, .slice A n cap] 24)) (g := w.heap.size + 1) (by simp) [.int .i64 bk, .int .i64 bn, .string bt] 26
  obtain ⟨x0, x1, x2, _⟩ := ha0.three
  clear ha0 hz
  go_enter Tryz.func46, Tryz.ntmps46
  go_wp2_with fail
  generalize (w.alloc (.cells #[.int .i64 r, .int .i64 c, .slice A n cap] 24)).alloc (.cells #[.int .i64 bk, .int .i64 bn, .string bt] 26) = W at *
  refine (HO.out _).mono ?_
  rintro e w1 ⟨rfl, hb1⟩
  have hc0 := CellsAt.new w1 [.int .i64 op, .int .i64 k2, .int .i64 n2, .string t2] 82
  replace ht0 := (ht0.on hb1).on_alloc (.cells #[.int .i64 op, .int .i64 k2, .int .i64 n2, .string t2] 82)
  have hbw := on hb0 hb1
  replace hb0 := on_alloc hbw (.cells #[.int .i64 op, .int .i64 k2, .int .i64 n2, .string t2] 82)
  replace HZ := Lib.hid (HZ.out.on hb0)
  have hs2 := hbw.size
  clear x0 x1 x2 HO
  go_wp2_with fail
  generalize w1.alloc (.cells #[.int .i64 op, .int .i64 k2, .int .i64 n2, .string t2] 82) = W2 at *
  go_loopw [5, 7] (fun o i wr => ∃ k : Nat, k ≤ n ∧ i = .int .i64 k ∧ OwnV W2.heap.size o (hitL op k2 n2 t2 (L.take k)) wr ∧ Below W2.heap.size W2 wr) (fun _ i _ => n - (intOf i).toNat)
  case atStart => exact ⟨0, Nat.zero_le _, rfl, World.ownsRow_nil _ _ _ _, Below.refl _ _⟩
  case round =>
    obtain ⟨k, hk, rfl, hrow, hbW⟩ := hrel
    have hlen : (hitL op k2 n2 t2 (L.take k)).length ≤ k := Nat.le_trans (hit_len _ _ _ _ _) (by rw [List.length_take]; omega)
    have hs0 := hbW.size
    obtain ⟨t0, t1, t2', _⟩ := (ht0.on hbW).three
    by_cases hlt : k < n
    · obtain ⟨v, hv⟩ := HZ.out.get hlt
      have HH2 := Lib.hid (fun w1 => HH.out k v w1 hv)
      obtain ⟨b, o, rfl, hb, c0, c1, c2⟩ := (HZ.out.on hbW).at hv
      have HY : Hid (hitsV op k2 n2 t2 v.k v.n v.t = true → hitL op k2 n2 t2 (L.take (k + 1)) = hitL op k2 n2 t2 (L.take k) ++ [v]) := Lib.hid (hit_hit hv)
      have HN : Hid (hitsV op k2 n2 t2 v.k v.n v.t = false → hitL op k2 n2 t2 (L.take (k + 1)) = hitL op k2 n2 t2 (L.take k)) := Lib.hid (hit_miss hv)
      have HAt : Hid (∀ w2, Below W2.heap.size W2 w2 → ValsR w2 (some ⟨b, o, none⟩) n L) := Lib.hid (fun w2 h => HZ.out.on h)
      have HV2 := Lib.hid hv
      obtain ⟨vk, vn, vt⟩ := v
      dsimp only at c0 c1 c2 HH2 HY HN
      generalize hbit : hitsV op k2 n2 t2 vk vn vt = bit at *
      obtain ⟨q0, q1, q2, q3, _⟩ := (hc0.on hbW).four
      clear hv HH hbit
      go_wp2_with fail
      have T0 := fun d os => cell_regrown t0 d os
      have T1 := fun d os => cell_regrown t1 d os
      have T2 := fun d os => cell_regrown t2' d os
      have C0 := fun d os => cell_regrown c0 d os
      have C1 := fun d os => cell_regrown c1 d os
      have C2 := fun d os => cell_regrown c2 d os
      have Q0 := fun d os => cell_regrown q0 d os
      have Q1 := fun d os => cell_regrown q1 d os
      have Q2 := fun d os => cell_regrown q2 d os
      have Q3 := fun d os => cell_regrown q3 d os
      clear t0 t1 t2' c0 c1 c2 q0 q1 q2 q3
      cases bit
      · refine wp_region_mem 12 (fun d => match d with
          | 27 => some (Is (.bool false))
          | _ => none) (by kernel_rfl) (by kernel_rfl) ?_
        simp only [List.take_succ_cons, List.take_zero, List.drop_succ_cons, List.drop_zero]
        repeat (first | ((with_reducible refine wpM_calm ?_ ?_ ?_ ?_); exact rfl; exact rfl; exact rfl; intro K hK; go_big_quiet_op; go_big_quiet_on) | ((with_reducible refine wpM_skip ?_ ?_); exact rfl; simp only [Act.put, List.setIfInBounds_toArray, List.set_cons_succ, List.set_cons_zero]))
        refine wpM_exact rfl rfl rfl Tryz.func68 (by kernel_rfl) (by kernel_rfl) (fun w1 _ _ => HH2.out w1) rfl (by simp only [Act.put, List.setIfInBounds_toArray, List.set_cons_succ, List.set_cons_zero]; rfl) ?_
        repeat (first | ((with_reducible refine wpM_calm ?_ ?_ ?_ ?_); exact rfl; exact rfl; exact rfl; intro K hK; go_big_quiet_op; go_big_quiet_on) | ((with_reducible refine wpM_skip ?_ ?_); exact rfl; simp only [Act.put, List.setIfInBounds_toArray, List.set_cons_succ, List.set_cons_zero]))
        refine wpM_nil ?_
        intro w3 hw3 _
        have HN2 := Lib.hid (HN.out rfl)
        replace hrow := hrow.on hw3
        replace hbW := on hbW hw3
        clear HN HY hw3 T0 T1 T2 C0 C1 C2 Q0 Q1 Q2 Q3 HH2
        go_wp2_with fail
        go_roundw
        case rel => exact ⟨k + 1, by omega, by go_num, by rw [HN2.out]; exact hrow, hbW⟩
        case measure => simp [intOf]; omega
      · refine wp_region_mem 12 (fun d => match d with
          | 27 => some (Is (.bool true))
          | _ => none) (by kernel_rfl) (by kernel_rfl) ?_
        simp only [List.take_succ_cons, List.take_zero, List.drop_succ_cons, List.drop_zero]
        repeat (first | ((with_reducible refine wpM_calm ?_ ?_ ?_ ?_); exact rfl; exact rfl; exact rfl; intro K hK; go_big_quiet_op; go_big_quiet_on) | ((with_reducible refine wpM_skip ?_ ?_); exact rfl; simp only [Act.put, List.setIfInBounds_toArray, List.set_cons_succ, List.set_cons_zero]))
        refine wpM_exact rfl rfl rfl Tryz.func68 (by kernel_rfl) (by kernel_rfl) (fun w1 _ _ => HH2.out w1) rfl (by simp only [Act.put, List.setIfInBounds_toArray, List.set_cons_succ, List.set_cons_zero]; rfl) ?_
        repeat (first | ((with_reducible refine wpM_calm ?_ ?_ ?_ ?_); exact rfl; exact rfl; exact rfl; intro K hK; go_big_quiet_op; go_big_quiet_on) | ((with_reducible refine wpM_skip ?_ ?_); exact rfl; simp only [Act.put, List.setIfInBounds_toArray, List.set_cons_succ, List.set_cons_zero]))
        refine wpM_nil ?_
        intro w3 hw3 _
        have HN2 := Lib.hid (HY.out rfl)
        replace hrow := hrow.on hw3
        replace hbW := on hbW hw3
        clear HN HY hw3 T0 T1 T2 C0 C1 C2 Q0 Q1 Q2 Q3 HH2
        obtain ⟨t0, t1, t2', _⟩ := (ht0.on hbW).three
        obtain ⟨b', o', eb, hb', c0, c1, c2⟩ := (HAt.out w3 hbW).at HV2.out
        simp only [Option.some.injEq, Addr.mk.injEq, and_true] at eb
        obtain ⟨rfl, rfl⟩ := eb
        dsimp only at c0 c1 c2
        have hs3 := hbW.size
        generalize hitL op k2 n2 t2 (L.take k) = K at *
        unfold OwnV at hrow
        go_wp2_with (at_builtin; refine wpList_append_own _ rfl _ _ 22 rfl W2.heap.size 26 i0 _ 3 32 Tryz.underlying22 hi hz0 hz1 hz2 rfl (by decide) _ _ _ rfl (hrow.alloc _) ⟨_, 0, none⟩ 1 1 [.int .i64 vk, .int .i64 vn, .string vt] rfl rfl (three_new (by simp) _ _ _ _) (by simp [Value.oneCell']) (by unfold maxLen; omega) (by omega) (by simp; omega) ?_)
        intro v1 w4 hown1 hg1 _
        have hb4 := own_below hrow hbW (Nat.le_refl _) hg1
        have hrow1 := own_snoc (L := K) ⟨vk, vn, vt⟩ hown1
        clear hown1 hg1 hrow hbW t0 t1 t2' c0 c1 c2
        go_wp2
        go_roundw
        case rel => exact ⟨k + 1, by omega, by go_num, by rw [HN2.out]; exact hrow1, hb4⟩
        case measure => simp [intOf]; omega
    · obtain rfl : k = n := by omega
      rw [List.take_of_length_le (by rw [HLn.out]; omega)] at hrow hlen
      obtain ⟨A2, c2, rfl, hZ2⟩ := hrow.reads (n := (hitL op k2 n2 t2 L).length) rfl (by omega) (fun x hx => HFit.out x (hit_mem hx))
      have HZ2 := Lib.hid hZ2
      clear hrow hZ2 HH
      go_wp2_with fail
      go_ret
      exact ⟨A2, _, c2, rfl, rfl, HZ2.out, on hb0 hbW⟩
set_option maxRecDepth 100000 in
set_option maxHeartbeats 2000000 in
theorem rcount_fault (r c : Int) (A : Option Addr) (n cap : Nat) (bk bn : Int) (bt : ByteArray) (h4 : bk = 4) (w : World) :
    Calls Tryz.prog 22 #[.agg #[.int .i64 r, .int .i64 c, .slice A n cap], .agg #[.int .i64 bk, .int .i64 bn, .string bt]] w (ValIs bk bn bt w) := by
  subst h4
  go_enter Tryz.func22, Tryz.ntmps22
  go_wp2_with fail
  exact bodyPost_ret (v := .agg #[.int .i64 4, .int .i64 bn, .string bt]) (by simp [results, Tryz.results22, go_sem]) rfl ⟨rfl, below3 _ _ _ _⟩
set_option maxRecDepth 100000 in
set_option maxHeartbeats 2000000 in
theorem rcount_in (r c : Int) (A : Option Addr) (n cap : Nat) (bk bn : Int) (bt : ByteArray) (b4 : (bk == 4) = false) (K : List Vl) (w : World) (HH : ∀ w1, Below w.heap.size w w1 → Calls Tryz.prog 46 #[.agg #[.int .i64 r, .int .i64 c, .slice A n cap], .agg #[.int .i64 bk, .int .i64 bn, .string bt]] w1 (RHitEnd K w1)) :
    Calls Tryz.prog 22 #[.agg #[.int .i64 r, .int .i64 c, .slice A n cap], .agg #[.int .i64 bk, .int .i64 bn, .string bt]] w (ValIs 1 ((K.length : Int) * 10000) ⟨#[]⟩ w) := by
  have HH := Lib.hid HH
  have HG : Hid (∀ m : Nat, m ≤ 1000 → ∀ w1, Calls Tryz.prog 45 #[.int .i64 ((m : Int) * 10000)] w1 (ValIs 1 ((m : Int) * 10000) ⟨#[]⟩ w1)) := Lib.hid (fun m h w1 => rnum_c ((m : Int) * 10000) 1 ((m : Int) * 10000) (num_in (mayD_yes (by omega))) w1)
  have ht0 := ((CellsAt.new w [.int .i64 r, .int .i64 c, .slice A n cap] 24).on_alloc (.cells #[.int .i64 bk, .int .i64 bn, .string bt] 26)).on_alloc (.cells #[.int .i64 0, .int .i64 0, .string ⟨#[]⟩] 26)
  have ha0 := (newAt (w0 := w.alloc (.cells #[.int .i64 r, .int .i64 c, .slice A n cap] 24)) (g := w.heap.size + 1) (by simp) [.int .i64 bk, .int .i64 bn, .string bt] 26).on_alloc (.cells #[.int .i64 0, .int .i64 0, .string ⟨#[]⟩] 26)
  have hr0 := newAt (w0 := (w.alloc (.cells #[.int .i64 r, .int .i64 c, .slice A n cap] 24)).alloc (.cells #[.int .i64 bk, .int .i64 bn, .string bt] 26)) (g := w.heap.size + 2) (by simp) [.int .i64 0, .int .i64 0, .string ⟨#[]⟩] 26
  have hb0 := below3 w (.cells #[.int .i64 r, .int .i64 c, .slice A n cap] 24) (.cells #[.int .i64 bk, .int .i64 bn, .string bt] 26) (.cells #[.int .i64 0, .int .i64 0, .string ⟨#[]⟩] 26)
  obtain ⟨t0, t1, t2, _⟩ := ht0.three
  obtain ⟨x0, x1, x2, _⟩ := ha0.three
  clear ht0 ha0
  go_enter Tryz.func22, Tryz.ntmps22
  go_wp2_with fail
  generalize ((w.alloc (.cells #[.int .i64 r, .int .i64 c, .slice A n cap] 24)).alloc (.cells #[.int .i64 bk, .int .i64 bn, .string bt] 26)).alloc (.cells #[.int .i64 0, .int .i64 0, .string ⟨#[]⟩] 26) = W at *
  refine (HH.out _ hb0).mono ?_
  rintro e w1 ⟨A2, m, c2, rfl, hml, hz1, hb1⟩
  have hm9 := hz1.2.1
  clear t0 t1 t2 x0 x1 x2 HH
  replace hr0 := hr0.on hb1
  replace hb0 := on hb0 hb1
  have HG2 := Lib.hid (HG.out m hm9)
  obtain ⟨q, hq⟩ : ∃ q, (m : Int) * 10000 = q := ⟨_, rfl⟩
  rw [hq] at HG2
  have q1 : 0 ≤ q := by omega
  have q2 : q ≤ 10000000 := by omega
  subst hml
  clear HG hb1
  go_wp2_with fail
  refine (HG2.out _).mono ?_
  rintro e w3 ⟨rfl, hb3⟩
  replace hr0 := hr0.on hb3
  replace hb0 := on hb0 hb3
  clear HG2 hb3
  obtain ⟨p0, p1, p2, f0, f1, f2⟩ := hr0.three
  have hl := hr0.1
  obtain ⟨z0, z1, z2⟩ := three_set (u := .int .i64 1) (v := .int .i64 q) (r := .string ⟨#[]⟩) p0 p1 p2
  have hb5 := set3 hb0 (b := w.heap.size + 2) (by omega) (.int .i64 1) (.int .i64 q) (.string ⟨#[]⟩)
  clear hb0 hr0
  go_wp2_with fail
  rw [hq]
  exact bodyPost_ret (v := .agg #[.int .i64 1, .int .i64 q, .string ⟨#[]⟩]) (by simp [results, Tryz.results22, go_sem, z0, z1, z2]) rfl ⟨rfl, hb5⟩
set_option maxRecDepth 100000 in
set_option maxHeartbeats 2000000 in
theorem rsum_fault (r c : Int) (A : Option Addr) (n cap : Nat) (bk bn : Int) (bt : ByteArray) (h4 : bk = 4) (w : World) :
    Calls Tryz.prog 24 #[.agg #[.int .i64 r, .int .i64 c, .slice A n cap], .agg #[.int .i64 bk, .int .i64 bn, .string bt]] w (ValIs bk bn bt w) := by
  subst h4
  go_enter Tryz.func24, Tryz.ntmps24
  go_wp2_with fail
  exact bodyPost_ret (v := .agg #[.int .i64 4, .int .i64 bn, .string bt]) (by simp [results, Tryz.results24, go_sem]) rfl ⟨rfl, below3 _ _ _ _⟩
set_option maxRecDepth 100000 in
set_option maxHeartbeats 2000000 in
theorem rsum_in (r c : Int) (A : Option Addr) (n cap : Nat) (bk bn : Int) (bt : ByteArray) (b4 : (bk == 4) = false) (K : List Vl) (hm : ∀ v ∈ K, v.may) (k0 n0 : Int) (hv : allV addD 0 K = (k0, n0)) (w : World) (HH : ∀ w1, Below w.heap.size w w1 → Calls Tryz.prog 46 #[.agg #[.int .i64 r, .int .i64 c, .slice A n cap], .agg #[.int .i64 bk, .int .i64 bn, .string bt]] w1 (RHitEnd K w1)) :
    Calls Tryz.prog 24 #[.agg #[.int .i64 r, .int .i64 c, .slice A n cap], .agg #[.int .i64 bk, .int .i64 bn, .string bt]] w (ValIs k0 n0 ⟨#[]⟩ w) := by
  have HH := Lib.hid HH
  have HD := Lib.hid (fun A m c2 w1 hz => rsum_c A m c2 K hm k0 n0 hv w1 hz)
  have ht0 := ((CellsAt.new w [.int .i64 r, .int .i64 c, .slice A n cap] 24).on_alloc (.cells #[.int .i64 bk, .int .i64 bn, .string bt] 26)).on_alloc (.cells #[.int .i64 0, .int .i64 0, .string ⟨#[]⟩] 26)
  have ha0 := (newAt (w0 := w.alloc (.cells #[.int .i64 r, .int .i64 c, .slice A n cap] 24)) (g := w.heap.size + 1) (by simp) [.int .i64 bk, .int .i64 bn, .string bt] 26).on_alloc (.cells #[.int .i64 0, .int .i64 0, .string ⟨#[]⟩] 26)
  have hr0 := newAt (w0 := (w.alloc (.cells #[.int .i64 r, .int .i64 c, .slice A n cap] 24)).alloc (.cells #[.int .i64 bk, .int .i64 bn, .string bt] 26)) (g := w.heap.size + 2) (by simp) [.int .i64 0, .int .i64 0, .string ⟨#[]⟩] 26
  have hb0 := below3 w (.cells #[.int .i64 r, .int .i64 c, .slice A n cap] 24) (.cells #[.int .i64 bk, .int .i64 bn, .string bt] 26) (.cells #[.int .i64 0, .int .i64 0, .string ⟨#[]⟩] 26)
  obtain ⟨t0, t1, t2, _⟩ := ht0.three
  obtain ⟨x0, x1, x2, _⟩ := ha0.three
  clear ht0 ha0
  go_enter Tryz.func24, Tryz.ntmps24
  go_wp2_with fail
  generalize ((w.alloc (.cells #[.int .i64 r, .int .i64 c, .slice A n cap] 24)).alloc (.cells #[.int .i64 bk, .int .i64 bn, .string bt] 26)).alloc (.cells #[.int .i64 0, .int .i64 0, .string ⟨#[]⟩] 26) = W at *
  refine (HH.out _ hb0).mono ?_
  rintro e w1 ⟨A2, m, c2, rfl, hml, hz1, hb1⟩
  have hm9 := hz1.2.1
  clear t0 t1 t2 x0 x1 x2 HH
  replace hr0 := hr0.on hb1
  replace hb0 := on hb0 hb1
  clear hb1 hml
  go_wp2_with fail
  refine (HD.out _ _ _ _ hz1).mono ?_
  rintro e w2 ⟨rfl, hb2⟩
  replace hr0 := hr0.on hb2
  replace hb0 := on hb0 hb2
  clear HD hb2
  obtain ⟨p0, p1, p2, f0, f1, f2⟩ := hr0.three
  have hl := hr0.1
  obtain ⟨z0, z1, z2⟩ := three_set (u := .int .i64 k0) (v := .int .i64 n0) (r := .string ⟨#[]⟩) p0 p1 p2
  have hb5 := set3 hb0 (b := w.heap.size + 2) (by omega) (.int .i64 k0) (.int .i64 n0) (.string ⟨#[]⟩)
  clear hb0 hr0
  go_wp2_with fail
  exact bodyPost_ret (v := .agg #[.int .i64 k0, .int .i64 n0, .string ⟨#[]⟩]) (by simp [results, Tryz.results24, go_sem, z0, z1, z2]) rfl ⟨rfl, hb5⟩
set_option maxRecDepth 100000 in
set_option maxHeartbeats 2000000 in
theorem rmean_fault (r c : Int) (A : Option Addr) (n cap : Nat) (bk bn : Int) (bt : ByteArray) (h4 : bk = 4) (w : World) :
    Calls Tryz.prog 26 #[.agg #[.int .i64 r, .int .i64 c, .slice A n cap], .agg #[.int .i64 bk, .int .i64 bn, .string bt]] w (ValIs bk bn bt w) := by
  subst h4
  go_enter Tryz.func26, Tryz.ntmps26
  go_wp2_with fail
  exact bodyPost_ret (v := .agg #[.int .i64 4, .int .i64 bn, .string bt]) (by simp [results, Tryz.results26, go_sem]) rfl ⟨rfl, below3 _ _ _ _⟩
set_option maxRecDepth 100000 in
set_option maxHeartbeats 2000000 in
theorem rmean_in (r c : Int) (A : Option Addr) (n cap : Nat) (bk bn : Int) (bt : ByteArray) (b4 : (bk == 4) = false) (K : List Vl) (hm : ∀ v ∈ K, v.may) (k0 n0 : Int) (hv : meanV K = (k0, n0)) (w : World) (HH : ∀ w1, Below w.heap.size w w1 → Calls Tryz.prog 46 #[.agg #[.int .i64 r, .int .i64 c, .slice A n cap], .agg #[.int .i64 bk, .int .i64 bn, .string bt]] w1 (RHitEnd K w1)) :
    Calls Tryz.prog 26 #[.agg #[.int .i64 r, .int .i64 c, .slice A n cap], .agg #[.int .i64 bk, .int .i64 bn, .string bt]] w (ValIs k0 n0 ⟨#[]⟩ w) := by
  have HH := Lib.hid HH
  have HD := Lib.hid (fun A m c2 w1 hz => rmean_c A m c2 K hm k0 n0 hv w1 hz)
  have ht0 := ((CellsAt.new w [.int .i64 r, .int .i64 c, .slice A n cap] 24).on_alloc (.cells #[.int .i64 bk, .int .i64 bn, .string bt] 26)).on_alloc (.cells #[.int .i64 0, .int .i64 0, .string ⟨#[]⟩] 26)
  have ha0 := (newAt (w0 := w.alloc (.cells #[.int .i64 r, .int .i64 c, .slice A n cap] 24)) (g := w.heap.size + 1) (by simp) [.int .i64 bk, .int .i64 bn, .string bt] 26).on_alloc (.cells #[.int .i64 0, .int .i64 0, .string ⟨#[]⟩] 26)
  have hr0 := newAt (w0 := (w.alloc (.cells #[.int .i64 r, .int .i64 c, .slice A n cap] 24)).alloc (.cells #[.int .i64 bk, .int .i64 bn, .string bt] 26)) (g := w.heap.size + 2) (by simp) [.int .i64 0, .int .i64 0, .string ⟨#[]⟩] 26
  have hb0 := below3 w (.cells #[.int .i64 r, .int .i64 c, .slice A n cap] 24) (.cells #[.int .i64 bk, .int .i64 bn, .string bt] 26) (.cells #[.int .i64 0, .int .i64 0, .string ⟨#[]⟩] 26)
  obtain ⟨t0, t1, t2, _⟩ := ht0.three
  obtain ⟨x0, x1, x2, _⟩ := ha0.three
  clear ht0 ha0
  go_enter Tryz.func26, Tryz.ntmps26
  go_wp2_with fail
  generalize ((w.alloc (.cells #[.int .i64 r, .int .i64 c, .slice A n cap] 24)).alloc (.cells #[.int .i64 bk, .int .i64 bn, .string bt] 26)).alloc (.cells #[.int .i64 0, .int .i64 0, .string ⟨#[]⟩] 26) = W at *
  refine (HH.out _ hb0).mono ?_
  rintro e w1 ⟨A2, m, c2, rfl, hml, hz1, hb1⟩
  have hm9 := hz1.2.1
  clear t0 t1 t2 x0 x1 x2 HH
  replace hr0 := hr0.on hb1
  replace hb0 := on hb0 hb1
  clear hb1 hml
  go_wp2_with fail
  refine (HD.out _ _ _ _ hz1).mono ?_
  rintro e w2 ⟨rfl, hb2⟩
  replace hr0 := hr0.on hb2
  replace hb0 := on hb0 hb2
  clear HD hb2
  obtain ⟨p0, p1, p2, f0, f1, f2⟩ := hr0.three
  have hl := hr0.1
  obtain ⟨z0, z1, z2⟩ := three_set (u := .int .i64 k0) (v := .int .i64 n0) (r := .string ⟨#[]⟩) p0 p1 p2
  have hb5 := set3 hb0 (b := w.heap.size + 2) (by omega) (.int .i64 k0) (.int .i64 n0) (.string ⟨#[]⟩)
  clear hb0 hr0
  go_wp2_with fail
  exact bodyPost_ret (v := .agg #[.int .i64 k0, .int .i64 n0, .string ⟨#[]⟩]) (by simp [results, Tryz.results26, go_sem, z0, z1, z2]) rfl ⟨rfl, hb5⟩
end Go.Proofs.YtbjomidkeignjaaGreatDoor.Lok
