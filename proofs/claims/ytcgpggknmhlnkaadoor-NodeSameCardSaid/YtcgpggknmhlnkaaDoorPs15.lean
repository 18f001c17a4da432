/- What Text of package cats answers: for every set. -/
import Derived.Test.YtcgpggknmhlnkaaDoorPs14
namespace Go.Proofs.YtcgpggknmhlnkaaDoor.Cats
open Go.RowKit
/-- numbers that a slice reads as, in a block from lo on -/
def IntsFrom (lo : Nat) (w : World) (A : Option Addr) (n : Nat) (xs : List Int) : Prop := Ints w A n xs ∧ ∀ ad, A = some ad → lo ≤ ad.block
theorem IntsFrom.grown {lo g n : Nat} {w w' : World} {A : Option Addr} {xs : List Int} (h : IntsFrom lo w A n xs) (hg : w.grownBy w' (some g)) (hlo : g < lo) : IntsFrom lo w' A n xs := by
  refine ⟨⟨h.1.1, h.1.2.1, fun hn => ?_⟩, h.2⟩
  obtain ⟨b, off, e, hlt, hc⟩ := h.1.2.2 hn
  refine ⟨b, off, e, Nat.lt_of_lt_of_le hlt hg.size, fun k hk => ?_⟩
  have hb := h.2 _ e
  have hne : some b ≠ some g := by
    intro h
    simp only [Option.some.injEq] at h
    simp only at hb
    omega
  exact (World.cell?_of_block (a := ⟨b, off + k, none⟩) (hg.block b hlt hne)).trans (hc k hk)
theorem IntsFrom.alloc {lo n : Nat} {w : World} {A : Option Addr} {xs : List Int} (h : IntsFrom lo w A n xs) (o : Obj) : IntsFrom lo (w.alloc o) A n xs :=
  ⟨h.1.keep ((Below.refl _ _).alloc (Nat.le_refl _) o), h.2⟩
theorem Rl.from {s k : Nat} {w wr : World} {v : Value} (h : Rl s w wr v k) (hk : k ≤ 64) : ∃ A cap, v = .slice A (bitsTo s k).length cap ∧ IntsFrom w.heap.size wr A (bitsTo s k).length (intsOf (bitsTo s k)) := by
  obtain ⟨A, cap, rfl, hi⟩ := h.ints hk
  refine ⟨A, cap, rfl, hi, ?_⟩
  rintro ad rfl
  exact (h.1.lt ad.block rfl).1
def strsV (ws : List ByteArray) : List Value := ws.map Value.string
theorem strsV_snoc (ws : List ByteArray) (k : Nat) (hk : k < ws.length) : strsV (ws.take (k + 1)) = strsV (ws.take k) ++ [.string (ws.getD k ByteArray.empty)] := by
  unfold strsV
  rw [List.take_succ_eq_append_getElem hk, List.map_append]
  simp [hk]
/-- the words so far, and the list that is gone through -/
def Wl (w wr : World) (A : Option Addr) (ws : List ByteArray) (xs : List Int) (k : Nat) : Prop :=
  wr.ownsRow w.heap.size 9 1 (.slice (some ⟨w.heap.size, 0, none⟩) k ws.length) k (strsV (ws.take k)) ∧ IntsFrom (w.heap.size + 1) wr A ws.length xs ∧ Below w.heap.size w wr
theorem Wl.next {w wr w1 : World} {A : Option Addr} {ws : List ByteArray} {xs : List Int} {k : Nat} {o : Obj} (h : Wl w wr A ws xs k) (hk : k < ws.length)
    (hown : w1.ownsRow w.heap.size 9 1 (.slice (some ⟨w.heap.size, 0, none⟩) (k + 1) ws.length) (k + 1) (strsV (ws.take k) ++ [.string (ws.getD k ByteArray.empty)])) (hg : (wr.alloc o).grownBy w1 (some w.heap.size)) : Wl w w1 A ws xs (k + 1) := by
  obtain ⟨_, h2, h3⟩ := h
  refine ⟨by rw [strsV_snoc ws k hk]; exact hown, (h2.alloc o).grown hg (by omega), ?_⟩
  refine (h3.alloc h3.size o).grown hg (by have := h3.size; simp; omega) fun g hg => ?_
  simp only [Option.some.injEq] at hg
  omega
theorem Wl.start {w w1 w2 : World} {A : Option Addr} {ws : List ByteArray} {xs : List Int} (hown : w1.ownsRow w.heap.size 9 1 (.slice (some ⟨w.heap.size, 0, none⟩) 0 ws.length) 0 []) (hg : w.grownBy w1 none)
    (hi : IntsFrom w1.heap.size w2 A ws.length xs) (hb : Below w1.heap.size w1 w2) : Wl w w2 A ws xs 0 := by
  have hlt : w.heap.size < w1.heap.size := (hown.lt w.heap.size rfl).2
  refine ⟨⟨hown.1, ?_⟩, ⟨hi.1, fun ad e => by have := hi.2 ad e; omega⟩, ?_⟩
  · rcases hown.2 with ⟨h, _⟩ | ⟨g, cap, cur, h, hbg, hgc, r⟩
    · cases h
    · refine .inr ⟨g, cap, cur, h, hbg, ?_, r⟩
      have hgl : g < w1.heap.size := by
        rcases Nat.lt_or_ge g w1.heap.size with hlt | hge
        · exact hlt
        · rw [Array.getElem?_eq_none hge] at hgc; cases hgc
      rw [hb.block g hgl]
      exact hgc
  · exact ((Below.refl w.heap.size w).grown hg (Nat.le_refl _) (fun _ h => by cases h)).trans (hb.mono (by omega))
theorem Wl.cells {w wr : World} {A : Option Addr} {ws : List ByteArray} {xs : List Int} (h : Wl w wr A ws xs ws.length) : ∀ (j : Nat) x, ws[j]? = some x → wr.cell? ⟨w.heap.size, 0 + j, none⟩ = some (.string x) := by
  intro j x hx
  obtain ⟨hj, rfl⟩ := List.getElem?_eq_some_iff.1 hx
  rw [Nat.zero_add, World.ownsRow.cellAt h.1 j (by omega), List.take_length]
  simp [strsV, hj]
theorem Wl.size {w wr : World} {A : Option Addr} {ws : List ByteArray} {xs : List Int} {k : Nat} (h : Wl w wr A ws xs k) : w.heap.size < wr.heap.size := (h.1.lt w.heap.size rfl).2

theorem itoa_c (k : Nat) (hk : k < 100) (w : World) : Calls Tryd.prog 55 #[.int .i64 k] w fun e w' => e = .returned (.string ⟨(digs k).toArray⟩) ∧ w = w' :=
  (Tryd.strconv_Itoa_small k hk w).mono fun _ _ ⟨he, hw⟩ => ⟨by rw [he, digs_eq hk], hw.symm⟩
theorem str_info : (Tryd.prog.info? 9).map (fun i => (i.zero, i.size, i.bytes)) = some (some (.string ⟨#[]⟩), 1, 16) := by kernel_rfl

/-- a list of numbers, each with its word -/
def WordsOf (xs : List Int) (ws : List ByteArray) : Prop := xs.length = ws.length ∧ ∀ k, k < ws.length → ∃ c : Nat, xs.getD k 0 = (c : Int) ∧ c < 64 ∧ ws.getD k ByteArray.empty = ⟨(digs c).toArray⟩
theorem wordsOf_bits (s : Nat) : WordsOf (intsOf (bitsTo s 64)) ((bitsTo s 64).map fun c => (⟨(digs c).toArray⟩ : ByteArray)) := by
  refine ⟨by simp [intsOf], fun k hk => ?_⟩
  have hk : k < (bitsTo s 64).length := by simpa using hk
  refine ⟨(bitsTo s 64)[k], by simp [intsOf, hk], ?_, by simp [hk]⟩
  exact ((rising_bits s).mem _ (List.getElem_mem hk)).2
theorem joinC_length (ws : List (List UInt8)) (h : ∀ w ∈ ws, w.length ≤ 2) : (joinC ws).length ≤ 3 * ws.length := by
  induction ws with
  | nil => simp [joinC_nil]
  | cons w r ih =>
    have hw := h w (by simp)
    cases r with
    | nil => rw [joinC_one]; simp; omega
    | cons x xs =>
      rw [joinC_cons]
      have := ih fun y hy => h y (by simp [hy])
      simp at this ⊢
      omega
theorem digs_length (c : Nat) : (digs c).length ≤ 2 := by unfold digs; split <;> simp
theorem textL_length (s : Nat) : (textL s).length ≤ 192 := by
  have h := joinC_length ((bitsTo s 64).map digs) (by
    intro w hw
    obtain ⟨c, _, rfl⟩ := List.mem_map.1 hw
    exact digs_length c)
  have := bitsTo_le s 64
  simp at h
  unfold textL
  omega

set_option maxRecDepth 100000 in
set_option maxHeartbeats 1000000 in
theorem text_core (s : Nat) (ws : List ByteArray) (xs : List Int) (T : List UInt8) (hn : ws.length ≤ 64) (hw : WordsOf xs ws)
    (hT : Hid (Lib.join (ws.map (·.data.toList)) [44] = T)) (hTl : T.length ≤ 192)
    (hcount : Hid (∀ w, Calls Tryd.prog 65 #[.int .u64 s] w fun e w' => e = .returned (.int .i64 (ws.length : Nat)) ∧ w = w'))
    (hlist : Hid (∀ w, Calls Tryd.prog 66 #[.int .u64 s] w fun e w' => ∃ A cap, e = .returned (.slice A ws.length cap) ∧ IntsFrom w.heap.size w' A ws.length xs ∧ Below w.heap.size w w')) (w : World) :
    Calls Tryd.prog 56 #[.int .u64 s] w fun e w' => e = .returned (.string ⟨T.toArray⟩) ∧ Below w.heap.size w w' := by
  obtain ⟨i0, hi, hz0, hz1, hz2⟩ := info_parts str_info
  go_enter Tryd.func56, Tryd.ntmps56
  go_wp2_with (first
    | (go_at_call 65; refine (hcount.out _).mono ?_; rintro e w' ⟨rfl, rfl⟩)
    | (at_make; refine wpList_make_own _ rfl _ _ 88 rfl w.heap.size 9 i0 (.string ⟨#[]⟩) 1 Tryd.underlying88 hi hz0 hz1 .i64 .i64 _ ws.length rfl rfl rfl ?m1 ?m2 ?m3 ?_))
  case m1 => rw [hz2]; omega
  case m2 => unfold maxLen; omega
  case m3 => exact Nat.le_refl _
  intro w1 hown hg
  have hg2 := Lib.hid hg
  clear hg
  go_wp2_with fail
  refine (hlist.out _).mono ?_
  rintro e w2 ⟨A, cap, rfl, hints, hb⟩
  have h0 := Wl.start hown hg2.out hints hb
  clear hown hg2 hints hb
  go_wp2
  go_loopw [3, 12] (fun v i wr => ∃ k : Nat, k ≤ ws.length ∧ i = .int .i64 k ∧ v = .slice (some ⟨w.heap.size, 0, none⟩) k ws.length ∧ Wl w wr A ws xs k) (fun _ i _ => ws.length - (intOf i).toNat)
  case atStart => exact ⟨0, Nat.zero_le _, rfl, rfl, h0⟩
  case round =>
    clear h0
    obtain ⟨k, hk, rfl, rfl, hr⟩ := hrel
    by_cases hlt : k < ws.length
    · obtain ⟨b, off, rfl, hc⟩ := hr.2.1.1.at_ hlt
      obtain ⟨c, hxc, hc64, hwc⟩ := hw.2 k hlt
      rw [hxc] at hc
      have HW := Lib.hid hwc
      clear hxc hwc
      have hlk := hr.size
      go_wp2_with (first
        | (go_at_call 55; refine (itoa_c c (by omega) _).mono ?_; rintro e w' ⟨rfl, rfl⟩)
        | (at_builtin; refine wpList_append_fits _ rfl _ _ 88 rfl w.heap.size 9 i0 1 Tryd.underlying88 hi hz1 w.heap.size k ws.length _ rfl (hr.1.alloc _) ⟨_, 0, none⟩ 1 1 [.string ⟨(digs c).toArray⟩] rfl rfl ?c1 ?c2 ?c3 ?_))
      case c1 => exact cell_one_new _ _ _
      case c2 => intro u hu; simp at hu; subst hu; rfl
      case c3 => omega
      intro w3 hown' hgrow
      have h3 := hr.next hlt (by rw [HW.out]; exact hown') hgrow
      clear hown' hgrow
      go_wp2
      go_roundw
      case rel => exact ⟨k + 1, by omega, by go_num, rfl, h3⟩
      case measure => simp [intOf]; omega
    · obtain rfl : k = ws.length := by omega
      have hcells := Lib.hid hr.cells
      have hsz := hr.size
      have hbl := hr.2.2
      go_wp2_with fail
      refine (Tryd.strings_Join w.heap.size 0 ws.length ws ⟨#[44]⟩ _ hcells.out hsz (by omega) (Nat.le_refl _) ?_).mono ?_
      · show (Lib.join (ws.map (·.data.toList)) [44]).length ≤ _
        rw [hT.out]; omega
      · rintro e w' ⟨rfl, hb⟩
        go_wp2
        go_ret
        refine ⟨?_, hbl.trans (hb.mono (by omega))⟩
        show Ending.returned (.string ⟨(Lib.join (ws.map (·.data.toList)) [44]).toArray⟩) = _
        rw [hT.out]
theorem text_c (s : Nat) (hs : U s) (w : World) :
    Calls Tryd.prog 56 #[.int .u64 s] w fun e w' => e = .returned (.string ⟨(textL s).toArray⟩) ∧ Below w.heap.size w w' := by
  have hl : ((bitsTo s 64).map fun c => (⟨(digs c).toArray⟩ : ByteArray)).length = (bitsTo s 64).length := by simp
  refine text_core s ((bitsTo s 64).map fun c => (⟨(digs c).toArray⟩ : ByteArray)) (intsOf (bitsTo s 64)) (textL s) (by rw [hl]; exact bitsTo_le s 64) (wordsOf_bits s) ?_ (textL_length s) ?_ ?_ w
  · refine Lib.hid ?_
    unfold textL joinC
    rw [List.map_map]
    rfl
  · refine Lib.hid fun w => ?_
    rw [hl]
    exact count_c s hs w
  · refine Lib.hid fun w => (list_c s hs w).mono fun e w' ⟨v, he, hr⟩ => ?_
    obtain ⟨A, cap, hv, hi⟩ := hr.from (Nat.le_refl _)
    rw [hl]
    exact ⟨A, cap, by rw [he, hv], hi, hr.2⟩
end Go.Proofs.YtcgpggknmhlnkaaDoor.Cats
