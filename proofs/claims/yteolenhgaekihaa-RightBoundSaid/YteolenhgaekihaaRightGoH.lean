/- What the program's Leaks and Holders answer (over the landed text of package right, e6de85d). -/
import Derived.Test.YteolenhgaekihaaRightSays
import Derived.Test.YteolenhgaekihaaRightRefHold
import Derived.Test.YteolenhgaekihaaStrHas
import Derived.Test.YteolenhgaekihaaLabLeafs
namespace Go.Proofs.Yteolenhgaekihaa.Right
open Go.RowKit Kit Reg Go.Proofs.Yteolenhgaekihaa.Lab
open Go.Proofs.Yteolenhgaekihaa.Cats (U U_or U_zero)

set_option maxRecDepth 100000 in
set_option maxHeartbeats 2000000 in
theorem leaks1_c (g : Gr) (l : Int) (s : Nat) (q : Bool) (hq : g.leaks l s = q) (hg1 : U g.s) (hg2 : U g.r) (hs : U s) (w : World) :
    Calls Try.prog 35 #[.agg #[.string g.name, .int .i64 g.l, .int .u64 g.s, .int .i64 g.k, .int .u64 g.r], .agg #[.int .i64 l, .int .u64 s]] w fun e w' => e = .returned (.bool q) ∧ Below w.heap.size w w' := by
  subst hq
  have hb0 := below2 w (.cells #[.string g.name, .int .i64 g.l, .int .u64 g.s, .int .i64 g.k, .int .u64 g.r] 59) (.cells #[.int .i64 l, .int .u64 s] 25)
  have kg := (CellsAt.new w g.cells 59).on_alloc (.cells #[.int .i64 l, .int .u64 s] 25)
  have kl := CellsAt.new (w.alloc (.cells #[.string g.name, .int .i64 g.l, .int .u64 g.s, .int .i64 g.k, .int .u64 g.r] 59)) [.int .i64 l, .int .u64 s] 25
  rw [show (w.alloc (.cells #[.string g.name, .int .i64 g.l, .int .u64 g.s, .int .i64 g.k, .int .u64 g.r] 59)).heap.size = w.heap.size + 1 by simp] at kl
  change CellsAt ((w.alloc (.cells #[.string g.name, .int .i64 g.l, .int .u64 g.s, .int .i64 g.k, .int .u64 g.r] 59)).alloc (.cells #[.int .i64 l, .int .u64 s] 25)) w.heap.size [.string g.name, .int .i64 g.l, .int .u64 g.s, .int .i64 g.k, .int .u64 g.r] at kg
  cases h1 : belowL g.k g.r l s with
  | false =>
    have H1 := Lib.hid (fun w1 => below_c g.k l g.r s false hg2 hs h1 w1)
    rw [show g.leaks l s = false by unfold Gr.leaks; rw [h1]; rfl]
    clear h1
    go_enter Try.func35, Try.ntmps35
    go_wp2_with fail
    refine (H1.out _).mono ?_
    rintro e w1 ⟨rfl, hb1⟩
    go_wp2
    go_ret
    exact ⟨rfl, on hb0 hb1⟩
  | true =>
    obtain ⟨q, h2⟩ : ∃ q, belowL g.l g.s l s = q := ⟨_, rfl⟩
    have H1 := Lib.hid (fun w1 => below_c g.k l g.r s true hg2 hs h1 w1)
    have H2 := Lib.hid (fun w1 => below_c g.l l g.s s q hg1 hs h2 w1)
    rw [show g.leaks l s = !q by unfold Gr.leaks; rw [h1, h2]; rfl]
    clear h1 h2
    go_enter Try.func35, Try.ntmps35
    go_wp2_with fail
    generalize (w.alloc (.cells #[.string g.name, .int .i64 g.l, .int .u64 g.s, .int .i64 g.k, .int .u64 g.r] 59)).alloc (.cells #[.int .i64 l, .int .u64 s] 25) = W at *
    refine (H1.out _).mono ?_
    rintro e w1 ⟨rfl, hb1⟩
    replace hb0 := on hb0 hb1
    replace kg := kg.on hb1
    replace kl := kl.on hb1
    clear hb1
    obtain ⟨l0, l1, _⟩ := kl.two
    have g1 := (kg.2 1 _ rfl).1
    have g2 := (kg.2 2 _ rfl).1
    have ll := kl.1
    have lg := kg.1
    go_wp2_with fail
    refine (H2.out _).mono ?_
    rintro e w2 ⟨rfl, hb2⟩
    cases q <;> (go_wp2; go_ret; exact ⟨rfl, on hb0 hb2⟩)
theorem leaks_drop {gs : List Gr} {k : Nat} {g : Gr} (h : gs[k]? = some g) (l : Int) (s : Nat) : leaksB (gs.drop k) l s = (g.leaks l s || leaksB (gs.drop (k + 1)) l s) := by rw [drop_at h]; rfl
set_option maxRecDepth 100000 in
set_option maxHeartbeats 2000000 in
theorem leaks_says : LeaksSays := by
  intro A n cap gs l s w hs hz
  obtain ⟨q, hq⟩ : ∃ q, leaksB gs l s = q := ⟨_, rfl⟩
  rw [hq]
  have HZ := Lib.hid hz
  have hlen := hz.1
  have hmax := hz.2.1
  have HU := Lib.hid hz.2.2.1
  have HS := Lib.hid hs
  have HC := Lib.hid hq
  clear hz hs hq
  have hb0 := below1 w (.cells #[.int .i64 l, .int .u64 s] 25)
  have kl := CellsAt.new w [.int .i64 l, .int .u64 s] 25
  go_enter Try.func18, Try.ntmps18
  go_wp2
  go_loopw [9] (fun i wr => ∃ k : Nat, k ≤ n ∧ i = .int .i64 k ∧ Hid (leaksB (gs.drop k) l s = q) ∧ Below w.heap.size w wr ∧ CellsAt wr w.heap.size [.int .i64 l, .int .u64 s]) (fun i _ => n - (intOf i).toNat)
  case atStart => exact ⟨0, Nat.zero_le _, rfl, HC, hb0, kl⟩
  case round =>
    clear hb0 kl
    obtain ⟨k, hk, rfl, HK, hb0, kl⟩ := hrel
    by_cases hlt : k < n
    · obtain ⟨g, hgk⟩ : ∃ g, gs[k]? = some g := ⟨_, List.getElem?_eq_getElem (by rw [hlen]; exact hlt)⟩
      have HN := Lib.hid ((leaks_drop hgk l s).symm.trans HK.out)
      obtain ⟨hg1, hg2⟩ := HU.out g (List.mem_of_getElem? hgk)
      obtain ⟨_, _, _, h4⟩ := HZ.out.on hb0
      obtain ⟨b, o, rfl, hblt, hcell⟩ := h4 (by omega)
      obtain ⟨c0, c1, c2, c3, c4⟩ := grant_cells (hcell k g hgk)
      obtain ⟨p, hp⟩ : ∃ p, g.leaks l s = p := ⟨_, rfl⟩
      have H1 := Lib.hid (fun w1 => leaks1_c g l s p hp hg1 hg2 HS.out w1)
      rw [hp] at HN
      obtain ⟨l0, l1, _⟩ := kl.two
      have ll := kl.1
      have hbx := below1 wr (.cells #[.string g.name, .int .i64 g.l, .int .u64 g.s, .int .i64 g.k, .int .u64 g.r] 59)
      replace hb0 := on hb0 hbx
      replace kl := kl.on hbx
      clear h4 hcell hgk HK hp hbx
      go_wp2_with fail
      refine (H1.out _).mono ?_
      rintro e w3 ⟨rfl, hb3⟩
      replace hb0 := on hb0 hb3
      replace kl := kl.on hb3
      clear hb3 c0 c1 c2 c3 c4 l0 l1 ll
      cases p with
      | true =>
        have hq : true = q := HN.out
        subst hq
        go_wp2
        go_ret
        exact ⟨rfl, hb0⟩
      | false =>
        have HN3 : Hid (leaksB (gs.drop (k + 1)) l s = q) := HN
        go_wp2
        go_roundw
        case rel => exact ⟨k + 1, by omega, by go_num, HN3, hb0, kl⟩
        case measure => simp [intOf]; omega
    · obtain rfl : k = n := by omega
      have HE := HK.out
      rw [← hlen, List.drop_length] at HE
      obtain rfl : false = q := HE
      go_wp2
      go_ret
      exact ⟨rfl, hb0⟩
theorem holders_snoc {gs : List Gr} {k : Nat} {g : Gr} (h : gs[k]? = some g) (l : Int) (s : Nat) : holdersF (gs.take (k + 1)) l s = if g.leaks l s = true then stepN (holdersF (gs.take k) l s) g.name else holdersF (gs.take k) l s := by
  unfold holdersF
  rw [List.take_add_one, h]
  simp only [Option.toList_some]
  rw [leakyF_snoc]
  split
  · rw [List.map_append]; exact onceF_snoc _ _
  · rw [List.append_nil]
set_option maxRecDepth 100000 in
set_option maxHeartbeats 4000000 in
theorem holders_own (A : Option Addr) (n cap : Nat) (gs : List Gr) (l : Int) (s : Nat) (w : World) (hs : U s) (hn9 : n ≤ 1000) (hz : GrantsR w A n gs) :
    Calls Try.prog 21 #[.slice A n cap, .agg #[.int .i64 l, .int .u64 s]] w fun e w' => ∃ v, e = .returned v ∧ OwnS w.heap.size v (holdersF gs l s) w' ∧ Below w.heap.size w w' := by
  obtain ⟨i0, hin, hz0, hz1, hz2⟩ := info_parts infoS
  have HZ := Lib.hid hz
  have hlen := hz.1
  have HU := Lib.hid hz.2.2.1
  have HS := Lib.hid hs
  clear hz hs
  have hb0 := below2 w (.cells #[.int .i64 l, .int .u64 s] 25) (.cells #[] 9)
  have kl := (CellsAt.new w [.int .i64 l, .int .u64 s] 25).on_alloc (.cells #[] 9)
  have hrow := World.ownsRow_lit (base := w.heap.size + 1) (e := 9) (size := 1) (w.alloc (.cells #[.int .i64 l, .int .u64 s] 25)) #[] 0 (by simp) (by simp [maxLen]) rfl
  rw [show (w.alloc (.cells #[.int .i64 l, .int .u64 s] 25)).heap.size = w.heap.size + 1 by simp] at hrow
  go_enter Try.func21, Try.ntmps21
  go_wp2
  go_loopw [5, 11] (fun o i wr => ∃ k : Nat, k ≤ n ∧ i = .int .i64 k ∧ OwnS (w.heap.size + 1) o (holdersF (gs.take k) l s) wr ∧ Below w.heap.size w wr ∧ CellsAt wr w.heap.size [.int .i64 l, .int .u64 s]) (fun _ i _ => n - (intOf i).toNat)
  case atStart => exact ⟨0, Nat.zero_le _, rfl, hrow, hb0, kl⟩
  case round =>
    clear hb0 kl hrow
    obtain ⟨k, hk, rfl, hrow, hb0, kl⟩ := hrel
    by_cases hlt : k < n
    · obtain ⟨g, hgk⟩ : ∃ g, gs[k]? = some g := ⟨_, List.getElem?_eq_getElem (by rw [hlen]; exact hlt)⟩
      have HN := Lib.hid (holders_snoc hgk l s)
      have hol : (holdersF (gs.take k) l s).length ≤ k := by
        unfold holdersF
        have h1 := onceF_len ((leakyF (gs.take k) l s).map Gr.name)
        have h2 : (leakyF (gs.take k) l s).length ≤ (gs.take k).length := List.length_filter_le _ _
        rw [List.length_map] at h1
        rw [List.length_take] at h2
        omega
      obtain ⟨hg1, hg2⟩ := HU.out g (List.mem_of_getElem? hgk)
      obtain ⟨_, _, _, h4⟩ := HZ.out.on hb0
      obtain ⟨b, o, rfl, hblt, hcell⟩ := h4 (by omega)
      obtain ⟨c0, c1, c2, c3, c4⟩ := grant_cells (hcell k g hgk)
      obtain ⟨p, hp⟩ : ∃ p, g.leaks l s = p := ⟨_, rfl⟩
      have H1 := Lib.hid (fun w1 => leaks1_c g l s p hp hg1 hg2 HS.out w1)
      rw [hp] at HN
      generalize holdersF (gs.take k) l s = O at *
      obtain ⟨l0, l1, _⟩ := kl.two
      have ll := kl.1
      have kg := CellsAt.new wr g.cells 59
      have hbx := below1 wr (.cells #[.string g.name, .int .i64 g.l, .int .u64 g.s, .int .i64 g.k, .int .u64 g.r] 59)
      replace hb0 := on hb0 hbx
      replace kl := kl.on hbx
      replace hrow := OwnS.on hrow hbx
      clear h4 hcell hgk hp hbx
      go_wp2_with fail
      refine (H1.out _).mono ?_
      rintro e w3 ⟨rfl, hb3⟩
      replace hb0 := on hb0 hb3
      replace kl := kl.on hb3
      replace kg := kg.on hb3
      replace hrow := OwnS.on hrow hb3
      clear hb3 c0 c1 c2 c3 c4 l0 l1 ll
      cases p with
      | false =>
        rw [if_neg (by simp)] at HN
        go_wp2
        go_roundw
        case rel => exact ⟨k + 1, by omega, by go_num, by rw [HN.out]; exact hrow, hb0, kl⟩
        case measure => simp [intOf]; omega
      | true =>
        first | rw [if_pos trivial] at HN | rw [if_pos rfl] at HN
        obtain ⟨q, hq⟩ : ∃ q, hasN O g.name = q := ⟨_, rfl⟩
        have H2 := Lib.hid (fun w1 v h => contains_c v O g.name (by omega) q hq w1 h)
        unfold stepN at HN
        rw [hq] at HN
        have g0 := (kg.2 0 _ rfl).1
        have lg := kg.1
        clear hq
        go_wp2_with fail
        refine (H2.out _ _ (OwnS.strs hrow)).mono ?_
        rintro e w4 ⟨rfl, hb4⟩
        replace hb0 := on hb0 hb4
        replace kl := kl.on hb4
        replace kg := kg.on hb4
        replace hrow := OwnS.on hrow hb4
        clear hb4 g0 lg
        cases q with
        | true =>
          first | rw [if_pos trivial] at HN | rw [if_pos rfl] at HN
          go_wp2
          go_roundw
          case rel => exact ⟨k + 1, by omega, by go_num, by rw [HN.out]; exact hrow, hb0, kl⟩
          case measure => simp [intOf]; omega
        | false =>
          rw [if_neg (by simp)] at HN
          have g0 := (kg.2 0 _ rfl).1
          have lg := kg.1
          have hnew := cell_one_new w4 (.string g.name) 9
          unfold OwnS at hrow
          generalize hOl : O.length = m at *
          have HOl := Lib.hid hOl
          have hs0 := hb0.size
          have ll := kl.1
          clear hOl
          go_wp2_with (at_builtin; refine wpList_append_own_at _ rfl _ _ 48 rfl (w.heap.size + 1) 9 i0 _ 1 16 Try.underlying48 hin hz0 hz1 hz2 rfl (by decide) _ m (strs O) rfl (hrow.alloc _) ⟨w4.heap.size, 0, none⟩ 1 1 [.string g.name] rfl rfl hnew (by simp [Value.oneCell']) (by unfold maxLen; omega) (by omega) (by simp; omega) ?_; intro v' w5 hown' hgrow hnil hloc)
          go_roundw
          case rel =>
            refine ⟨k + 1, by omega, by go_num, ?_, ?_, ?_⟩
            · rw [HN.out]
              unfold OwnS
              rw [strs_snoc, List.length_append, HOl.out]
              exact hown'
            · exact (on_alloc hb0 _).grown hgrow (by simp; omega) (fun b e => by have := (World.ownsRow.lt hrow b e).1; omega)
            · exact cells_grown (kl.on_alloc _) hgrow (own_far hrow (by omega))
          case measure => simp [intOf]; omega
    · obtain rfl : k = n := by omega
      rw [List.take_of_length_le (by omega)] at hrow
      go_wp2
      go_ret
      exact ⟨_, rfl, World.ownsRow.mono hrow (by omega), hb0⟩
theorem holders_says : HoldersSays := fun A n cap gs l s w hs hn hz => (holders_own A n cap gs l s w hs hn hz).mono fun _ _ ⟨v, h1, h2, h3⟩ => ⟨v, h1, h2.strs, h3⟩
end Go.Proofs.Yteolenhgaekihaa.Right
