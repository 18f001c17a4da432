/- The laws FoldBest and FoldTexts, walked: the least and the greatest number, the middle, how many are of a kind; all as texts, and whether an odd number of them is true. -/
import Derived.Test.YtcampdedhfhkbaaDoorFldAlive
import Derived.Test.YtcampdedhfhkbaaDoorGc
import Derived.Test.YtcampdedhfhkbaaDoorGd
import Derived.Test.YtcampdedhfhkbaaDoorFldXor
import Derived.Test.YtcampdedhfhkbaaDoorGe
namespace Go.Proofs.YtcampdedhfhkbaaDoor.Fld
open Go.RowKit Kit Reg Dec Dig Val Txt

/-- a list of values that may be, at most 200 of them; or one that is none -/
theorem right_or (A : Option Addr) (n cap : Nat) (L : List Vl) (w : World) (h : n ≤ 200 → ValsR w A n L) : (n ≤ 200 ∧ ValsR w A n L ∧ (∀ v ∈ L, v.may) ∧ Calls Tryd.prog 7 #[.slice A n cap, .int .i64 200] w fun e w' => e = .returned (.bool true) ∧ Below w.heap.size w w') ∨
    Calls Tryd.prog 7 #[.slice A n cap, .int .i64 200] w fun e w' => e = .returned (.bool false) ∧ Below w.heap.size w w' := by
  by_cases hn : n ≤ 200
  · have hz := h hn
    rcases may_or L with hm | ⟨p, x, hp, hx, hb⟩
    · exact .inl ⟨hn, hz, hm, right_yes A n cap L hn hm w hz⟩
    · exact .inr (right_no A n cap L hn p x hp hx hb w hz)
  · exact .inr (right_long A n cap (by omega) w)
set_option maxRecDepth 100000 in
set_option maxHeartbeats 1000000 in
theorem best_out (A : Option Addr) (n cap : Nat) (kind : Int) (w : World) (hR : Calls Tryd.prog 7 #[.slice A n cap, .int .i64 200] w fun e w' => e = .returned (.bool false) ∧ Below w.heap.size w w') (hL : Dig.Libs w) :
    Calls Tryd.prog 4 #[.slice A n cap, .int .i64 kind] w (LawEnd w) := by
  have HR := Lib.hid hR
  have HA := Lib.hid (fun w1 hL => alive_c w1 hL)
  have HL := Lib.hid hL
  clear hR hL
  go_enter Tryd.func4, Tryd.ntmps4
  go_wp2_with fail
  refine HR.out.mono ?_
  rintro e w1 ⟨rfl, hb1⟩
  go_wp2_with fail
  refine (HA.out _ (HL.out.grown hb1)).mono ?_
  rintro e w2 ⟨rfl, hb2⟩
  have hb3 := on hb1 hb2
  go_wp2
  go_ret
  exact ⟨rfl, hb3⟩
set_option maxRecDepth 100000 in
set_option maxHeartbeats 1000000 in
theorem texts_out (A : Option Addr) (n cap : Nat) (w : World) (hR : Calls Tryd.prog 7 #[.slice A n cap, .int .i64 200] w fun e w' => e = .returned (.bool false) ∧ Below w.heap.size w w') (hL : Dig.Libs w) :
    Calls Tryd.prog 5 #[.slice A n cap] w (LawEnd w) := by
  have HR := Lib.hid hR
  have HA := Lib.hid (fun w1 hL => alive_c w1 hL)
  have HL := Lib.hid hL
  clear hR hL
  go_enter Tryd.func5, Tryd.ntmps5
  go_wp2_with fail
  refine HR.out.mono ?_
  rintro e w1 ⟨rfl, hb1⟩
  go_wp2_with fail
  refine (HA.out _ (HL.out.grown hb1)).mono ?_
  rintro e w2 ⟨rfl, hb2⟩
  have hb3 := on hb1 hb2
  go_wp2
  go_ret
  exact ⟨rfl, hb3⟩
set_option maxRecDepth 100000 in
set_option maxHeartbeats 4000000 in
theorem best_in (A : Option Addr) (n cap : Nat) (L : List Vl) (kind : Int) (hm : ∀ v ∈ L, v.may) (w : World) (hz : ValsR w A n L) (hR : Calls Tryd.prog 7 #[.slice A n cap, .int .i64 200] w fun e w' => e = .returned (.bool true) ∧ Below w.heap.size w w') (hL : Dig.Libs w) :
    Calls Tryd.prog 4 #[.slice A n cap, .int .i64 kind] w (LawEnd w) := by
  obtain ⟨⟨k1, n1⟩, e1⟩ : ∃ r, allV (bestD false) (startB false) L = r := ⟨_, rfl⟩
  obtain ⟨⟨k2, n2⟩, e2⟩ : ∃ r, allV (bestD true) (startB true) L = r := ⟨_, rfl⟩
  obtain ⟨⟨k3, n3⟩, e3⟩ : ∃ r, meanV L = r := ⟨_, rfl⟩
  obtain ⟨c, e4⟩ : ∃ r, countF kind L = r := ⟨_, rfl⟩
  have H1 := Lib.hid (fun w1 hz => least_c A n cap L hm k1 n1 e1 w1 hz)
  have H2 := Lib.hid (fun w1 hz => rbest_c false A n cap L hm k1 n1 e1 w1 hz)
  have H3 := Lib.hid (fun w1 hz => most_c A n cap L hm k2 n2 e2 w1 hz)
  have H4 := Lib.hid (fun w1 hz => rbest_c true A n cap L hm k2 n2 e2 w1 hz)
  have H5 := Lib.hid (fun w1 hz => mean_c A n cap L hm k3 n3 e3 w1 hz)
  have H6 := Lib.hid (fun w1 hz => rmean_c A n cap L hm k3 n3 e3 w1 hz)
  have H7 := Lib.hid (fun w1 hz => count_c kind A n cap L hm c e4 w1 hz)
  have H8 := Lib.hid (fun w1 hz => rcount_c kind A n cap L hm c e4 w1 hz)
  have HA := Lib.hid (fun w1 hL => alive_c w1 hL)
  have HR := Lib.hid hR
  have HL := Lib.hid hL
  have HZ := Lib.hid hz
  have hb0 := Below.refl w.heap.size w
  clear hR hL hz hm e1 e2 e3 e4
  go_enter Tryd.func4, Tryd.ntmps4
  go_wp2_with fail
  refine HR.out.mono ?_
  rintro e w1 ⟨rfl, hb⟩
  replace hb0 := on hb0 hb
  replace HZ := Lib.hid (HZ.out.on hb)
  clear hb HR
  go_wp2_with fail
  refine (H1.out _ HZ.out).mono ?_
  rintro e w2 ⟨rfl, hb⟩
  replace hb0 := on hb0 hb
  replace HZ := Lib.hid (HZ.out.on hb)
  clear hb H1
  go_wp2_with fail
  refine (H2.out _ HZ.out).mono ?_
  rintro e w3 ⟨rfl, hb⟩
  replace hb0 := on hb0 hb
  replace HZ := Lib.hid (HZ.out.on hb)
  clear hb H2
  go_wp2_with fail
  refine (H3.out _ HZ.out).mono ?_
  rintro e w4 ⟨rfl, hb⟩
  replace hb0 := on hb0 hb
  replace HZ := Lib.hid (HZ.out.on hb)
  clear hb H3
  go_wp2_with fail
  refine (H4.out _ HZ.out).mono ?_
  rintro e w5 ⟨rfl, hb⟩
  replace hb0 := on hb0 hb
  replace HZ := Lib.hid (HZ.out.on hb)
  clear hb H4
  go_wp2_with fail
  refine (H5.out _ HZ.out).mono ?_
  rintro e w6 ⟨rfl, hb⟩
  replace hb0 := on hb0 hb
  replace HZ := Lib.hid (HZ.out.on hb)
  clear hb H5
  go_wp2_with fail
  refine (H6.out _ HZ.out).mono ?_
  rintro e w7 ⟨rfl, hb⟩
  replace hb0 := on hb0 hb
  replace HZ := Lib.hid (HZ.out.on hb)
  clear hb H6
  go_wp2_with fail
  refine (H7.out _ HZ.out).mono ?_
  rintro e w8 ⟨rfl, hb⟩
  replace hb0 := on hb0 hb
  replace HZ := Lib.hid (HZ.out.on hb)
  clear hb H7
  go_wp2_with fail
  refine (H8.out _ HZ.out).mono ?_
  rintro e w9 ⟨rfl, hb⟩
  replace hb0 := on hb0 hb
  replace HZ := Lib.hid (HZ.out.on hb)
  clear hb H8
  go_wp2_with fail
  refine (HA.out _ (HL.out.grown hb0)).mono ?_
  rintro e w10 ⟨rfl, hb⟩
  replace hb0 := on hb0 hb
  replace HZ := Lib.hid (HZ.out.on hb)
  clear hb HA
  go_wp2
  go_ret
  exact ⟨rfl, hb0⟩
theorem best_law (A : Option Addr) (n cap : Nat) (L : List Vl) (kind : Int) (w : World) (h : n ≤ 200 → ValsR w A n L) (hL : Val.PLibs w) : Calls Tryd.prog 4 #[.slice A n cap, .int .i64 kind] w (LawEnd w) := by
  rcases right_or A n cap L w h with ⟨_, hz, hm, hR⟩ | hR
  · exact best_in A n cap L kind hm w hz hR hL.1
  · exact best_out A n cap kind w hR hL.1
set_option maxRecDepth 100000 in
set_option maxHeartbeats 4000000 in
theorem texts_in (A : Option Addr) (n cap : Nat) (L : List Vl) (hm : ∀ v ∈ L, v.may) (w : World) (hz : ValsR w A n L) (hR : Calls Tryd.prog 7 #[.slice A n cap, .int .i64 200] w fun e w' => e = .returned (.bool true) ∧ Below w.heap.size w w') (hL : Dig.Libs w) :
    Calls Tryd.prog 5 #[.slice A n cap] w (LawEnd w) := by
  obtain ⟨⟨k1, n1, m1⟩, e1⟩ : ∃ r, concatV L = r := ⟨_, rfl⟩
  obtain ⟨⟨k2, n2⟩, e2⟩ : ∃ r, xorV false L = r := ⟨_, rfl⟩
  obtain ⟨y, hy⟩ : ∃ y : ByteArray, y = ⟨m1.toArray⟩ := ⟨_, rfl⟩
  have H1 := Lib.hid (fun w1 hz hL => concat_c A n cap L hm k1 n1 m1 e1 w1 hz hL)
  have H2 := Lib.hid (fun w1 hz => rconcat_c A n cap L hm k1 n1 m1 e1 w1 hz)
  rw [← hy] at H1 H2
  have H3 := Lib.hid (fun w1 hz => xor_c A n cap L hm k2 n2 e2 w1 hz)
  have H4 := Lib.hid (fun w1 hz => rxor_c A n cap L hm k2 n2 e2 w1 hz)
  have HA := Lib.hid (fun w1 hL => alive_c w1 hL)
  have HR := Lib.hid hR
  have HL := Lib.hid hL
  have HZ := Lib.hid hz
  have hb0 := Below.refl w.heap.size w
  clear hR hL hz hm e1 e2 hy
  go_enter Tryd.func5, Tryd.ntmps5
  go_wp2_with fail
  refine HR.out.mono ?_
  rintro e w1 ⟨rfl, hb⟩
  replace hb0 := on hb0 hb
  replace HZ := Lib.hid (HZ.out.on hb)
  clear hb HR
  go_wp2_with fail
  refine (H1.out _ HZ.out (HL.out.grown hb0)).mono ?_
  rintro e w2 ⟨rfl, hb⟩
  replace hb0 := on hb0 hb
  replace HZ := Lib.hid (HZ.out.on hb)
  clear hb H1
  go_wp2_with fail
  refine (H2.out _ HZ.out).mono ?_
  rintro e w3 ⟨rfl, hb⟩
  replace hb0 := on hb0 hb
  replace HZ := Lib.hid (HZ.out.on hb)
  clear hb H2
  go_wp2_with fail
  refine (H3.out _ HZ.out).mono ?_
  rintro e w4 ⟨rfl, hb⟩
  replace hb0 := on hb0 hb
  replace HZ := Lib.hid (HZ.out.on hb)
  clear hb H3
  go_wp2_with fail
  refine (H4.out _ HZ.out).mono ?_
  rintro e w5 ⟨rfl, hb⟩
  replace hb0 := on hb0 hb
  replace HZ := Lib.hid (HZ.out.on hb)
  clear hb H4
  go_wp2_with fail
  refine (HA.out _ (HL.out.grown hb0)).mono ?_
  rintro e w6 ⟨rfl, hb⟩
  replace hb0 := on hb0 hb
  replace HZ := Lib.hid (HZ.out.on hb)
  clear hb HA
  go_wp2
  go_ret
  exact ⟨rfl, hb0⟩
theorem texts_law (A : Option Addr) (n cap : Nat) (L : List Vl) (w : World) (h : n ≤ 200 → ValsR w A n L) (hL : Val.PLibs w) : Calls Tryd.prog 5 #[.slice A n cap] w (LawEnd w) := by
  rcases right_or A n cap L w h with ⟨_, hz, hm, hR⟩ | hR
  · exact texts_in A n cap L hm w hz hR hL.1
  · exact texts_out A n cap w hR hL.1
end Go.Proofs.YtcampdedhfhkbaaDoor.Fld
