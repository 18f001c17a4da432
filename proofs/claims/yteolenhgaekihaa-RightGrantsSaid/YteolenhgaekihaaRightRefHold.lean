/- Who holds grants that leak to a label: what the reference's Holders answers. -/
import Derived.Test.YteolenhgaekihaaRightRefLeaky
namespace Go.Proofs.Yteolenhgaekihaa.Right
open Go.RowKit Kit Reg Go.Proofs.Yteolenhgaekihaa.Lab
open Go.Proofs.Yteolenhgaekihaa.Cats (U U_or U_zero)

theorem once_len : ∀ (ns a : List ByteArray), (ns.foldl stepN a).length ≤ a.length + ns.length
  | [], a => by simp
  | m :: r, a => by
    rw [List.foldl_cons]
    have h := once_len r (stepN a m)
    have h2 : (stepN a m).length ≤ a.length + 1 := by unfold stepN; split <;> simp
    rw [List.length_cons]
    omega
theorem onceF_len (ns : List ByteArray) : (onceF ns).length ≤ ns.length := by have := once_len ns []; simpa [onceF] using this
theorem names_take {F : List Gr} {k : Nat} {g : Gr} (h : F[k]? = some g) : (F.take (k + 1)).map Gr.name = (F.take k).map Gr.name ++ [g.name] := by
  rw [List.take_add_one, h]
  simp
theorem leakyF_U {gs : List Gr} (h : ∀ z ∈ gs, U z.s ∧ U z.r) (l : Int) (s : Nat) : ∀ z ∈ leakyF gs l s, U z.s ∧ U z.r := fun z hz => h z (List.mem_filter.1 hz).1
set_option maxRecDepth 100000 in
set_option maxHeartbeats 8000000 in
theorem rholders_c (A : Option Addr) (n cap : Nat) (hn9 : n ≤ 1000) (gs : List Gr) (l : Int) (s : Nat) (hs : U s) (w : World) (hz : GrantsR w A n gs) :
    Calls Try.prog 22 #[.slice A n cap, .agg #[.int .i64 l, .int .u64 s]] w fun e w' => ∃ v, e = .returned v ∧ OwnS w.heap.size v (holdersF gs l s) w' ∧ Below w.heap.size w w' := by
  obtain ⟨i0, hin, hz0, hz1, hz2⟩ := info_parts infoS
  have HZ := Lib.hid hz
  have HL := Lib.hid (fun w1 h => rleaky_c A n cap hn9 gs l s hs w1 h)
  have hFl9 : (leakyF gs l s).length ≤ 1000 := Nat.le_trans (List.length_filter_le _ _) (by rw [hz.1]; exact hn9)
  have HFU := leakyF_U hz.2.2.1 l s
  clear hz hs
  have HH : Hid (holdersF gs l s = onceF ((leakyF gs l s).map Gr.name)) := Lib.hid rfl
  generalize leakyF gs l s = F at *
  have hb0 := below1 w (.cells #[.int .i64 l, .int .u64 s] 25)
  have kl := CellsAt.new w [.int .i64 l, .int .u64 s] 25
  go_enter Try.func22, Try.ntmps22
  go_wp2_with fail
  have HZ1 := Lib.hid (HZ.out.on hb0)
  have hs1 := hb0.size
  have hls : (w.alloc (.cells #[.int .i64 l, .int .u64 s] 25)).heap.size = w.heap.size + 1 := by simp
  generalize w.alloc (.cells #[.int .i64 l, .int .u64 s] 25) = W at *
  refine (HL.out _ HZ1.out).mono ?_
  rintro e w1 ⟨v, rfl, hv, hb1⟩
  replace hb0 := on hb0 hb1
  have hsw := hb1.size
  obtain ⟨A2, c2, rfl, hG⟩ := hv.grants rfl (by omega) HFU
  obtain ⟨m, hm⟩ : ∃ m, F.length = m := ⟨_, rfl⟩
  rw [hm] at hG hFl9 ⊢
  replace hG := Lib.hid hG
  clear HZ1 HL HZ hb1 hv kl HFU
  go_wp2
  go_loopw [5, 7] (fun o i wr => ∃ k : Nat, k ≤ m ∧ i = .int .i64 k ∧ OwnS w1.heap.size o (onceF ((F.take k).map Gr.name)) wr ∧ Below w1.heap.size w1 wr) (fun _ i _ => m - (intOf i).toNat)
  case atStart => exact ⟨0, Nat.zero_le _, rfl, World.ownsRow_nil _ _ _ _, Below.refl _ _⟩
  case round =>
    obtain ⟨k, hk, rfl, hrow, hb⟩ := hrel
    by_cases hlt : k < m
    · obtain ⟨g, hgk⟩ : ∃ g, F[k]? = some g := ⟨_, List.getElem?_eq_getElem (by rw [hm]; exact hlt)⟩
      have HN := Lib.hid ((congrArg onceF (names_take hgk)).trans (onceF_snoc _ _))
      have HM := Lib.hid (onceF_mem ((F.take k).map Gr.name) g.name)
      have hol : (onceF ((F.take k).map Gr.name)).length ≤ k := Nat.le_trans (onceF_len _) (by rw [List.length_map, List.length_take]; omega)
      have HGk := Lib.hid hgk
      clear hgk
      generalize onceF ((F.take k).map Gr.name) = O at *
      go_wp2
      go_loopw [8, 9] (fun c i wr => ∃ j : Nat, j ≤ k ∧ i = .int .i64 j ∧ c = .bool (hasN ((F.take j).map Gr.name) g.name) ∧ OwnS w1.heap.size u5 O wr ∧ Below w1.heap.size w1 wr) (fun _ i _ => k - (intOf i).toNat)
      case atStart => exact ⟨0, Nat.zero_le _, rfl, rfl, hrow, hb⟩
      case round =>
        clear hrow hb
        obtain ⟨j, hj, rfl, rfl, hrow, hb⟩ := hrel
        by_cases hjl : j < k
        · obtain ⟨h, hhj⟩ : ∃ h, F[j]? = some h := ⟨_, List.getElem?_eq_getElem (by rw [hm]; omega)⟩
          have HJ := Lib.hid ((congrArg (fun a => hasN a g.name) (names_take hhj)).trans (hasN_snoc _ _ _))
          obtain ⟨_, _, _, h4⟩ := hG.out.on hb
          obtain ⟨b, o, rfl, hblt, hcell⟩ := h4 (by omega)
          obtain ⟨x0, _⟩ := grant_cells (hcell j h hhj)
          obtain ⟨y0, _⟩ := grant_cells (hcell k g HGk.out)
          have X0 := fun d os => cell_regrown x0 d os
          have Y0 := fun d os => cell_regrown y0 d os
          have hjm : j < m := by omega
          clear h4 hcell hhj x0 y0
          cases hcv : hasN ((F.take j).map Gr.name) g.name with
          | true =>
            rw [hcv, Bool.true_or] at HJ
            clear hcv
            go_wp2_with fail
            refine wp_region_quiet_below (by kernel_rfl) (by kernel_rfl) ?_
            repeat (go_big_quiet_step (first | fail))
            refine wpQuiet_nil ?_
            intro _ hw'
            obtain ⟨⟨dq, osq⟩, hw''⟩ := hw'
            subst hw''
            have hbr := below_regrown wr dq osq
            replace hrow := OwnS.on hrow hbr
            replace hb := hb.trans (hbr.mono hb.size)
            go_wp2
            go_roundw
            case rel => exact ⟨j + 1, by omega, by go_num, by rw [HJ.out], hrow, hb⟩
            case measure => simp [intOf]; omega
          | false =>
            obtain ⟨q, hq⟩ : ∃ q, (h.name.toList == g.name.toList) = q := ⟨_, rfl⟩
            rw [hcv, Bool.false_or, hq] at HJ
            clear hcv
            go_wp2_with fail
            refine wp_region_quiet_below (by kernel_rfl) (by kernel_rfl) ?_
            repeat (go_big_quiet_step (first | fail))
            refine wpQuiet_nil ?_
            intro _ hw'
            obtain ⟨⟨dq, osq⟩, hw''⟩ := hw'
            subst hw''
            have hbr := below_regrown wr dq osq
            replace hrow := OwnS.on hrow hbr
            replace hb := hb.trans (hbr.mono hb.size)
            cases q <;> go_wp2
            all_goals go_roundw
            all_goals first
              | exact ⟨j + 1, by omega, by go_num, by rw [HJ.out], hrow, hb⟩
              | (simp [intOf]; omega)
              | (simp [intOf, hq]; omega)
        · obtain rfl : j = k := by omega
          rw [← HM.out]
          unfold stepN at HN
          cases hcv : hasN O g.name with
          | true =>
            rw [hcv, if_pos rfl] at HN
            clear hcv
            go_wp2
            go_roundw
            case rel => exact ⟨j + 1, by omega, by go_num, by rw [HN.out]; exact hrow, hb⟩
            case measure => simp [intOf]; omega
          | false =>
            rw [hcv, if_neg (by simp)] at HN
            obtain ⟨_, _, _, h4⟩ := hG.out.on hb
            obtain ⟨b, o, rfl, hblt, hcell⟩ := h4 (by omega)
            obtain ⟨y0, _⟩ := grant_cells (hcell j g HGk.out)
            clear h4 hcell hcv
            have hnew := cell_one_new wr (.string g.name) 9
            unfold OwnS at hrow
            generalize hOl : O.length = q at *
            have HOl := Lib.hid hOl
            have hsb := hb.size
            clear hOl
            go_wp2_with (at_builtin; refine wpList_append_own_at _ rfl _ _ 48 rfl w1.heap.size 9 i0 _ 1 16 Try.underlying48 hin hz0 hz1 hz2 rfl (by decide) _ q (strs O) rfl (hrow.alloc _) ⟨wr.heap.size, 0, none⟩ 1 1 [.string g.name] rfl rfl hnew (by simp [Value.oneCell']) (by unfold maxLen; omega) (by omega) (by simp; omega) ?_; intro v' w5 hown' hgrow hnil hloc)
            go_roundw
            case rel =>
              refine ⟨j + 1, by omega, by go_num, ?_, ?_⟩
              · rw [HN.out]
                unfold OwnS
                rw [strs_snoc, List.length_append, HOl.out]
                exact hown'
              · exact (hb.alloc hb.size _).grown hgrow (by simp; omega) (fun b e => (World.ownsRow.lt hrow b e).1)
            case measure => simp [intOf]; omega
    · obtain rfl : k = m := by omega
      rw [List.take_of_length_le (by omega), ← HH.out] at hrow
      go_wp2
      go_ret
      exact ⟨_, rfl, World.ownsRow.mono hrow (by omega), hb0.trans (hb.mono (by omega))⟩
end Go.Proofs.Yteolenhgaekihaa.Right
