/- Zones laid behind and ahead of others: containers, and rows of one's own that grow. -/
import Derived.Test.YtedpgcmmnmlpeaaZoneAlive
import Derived.Laws.AppendOwnNone
namespace Go.Proofs.Ytedpgcmmnmlpeaa.Zone
open Go.RowKit Kit Reg Go.Proofs.Ytedpgcmmnmlpeaa.Span Go.Proofs.Ytedpgcmmnmlpeaa.Lab
open Go.Proofs.Ytedpgcmmnmlpeaa.Cats (U U_or U_zero)

/-- has any zone the cell? -/
def covF (zs : List Zn) (x y : Int) : Bool := zs.any fun z => z.has x y
theorem covF_snoc {zs : List Zn} {k : Nat} {z : Zn} (h : zs[k]? = some z) (x y : Int) : covF (zs.take (k + 1)) x y = (covF (zs.take k) x y || z.has x y) := by
  rw [List.take_add_one, h]
  simp [covF, List.any_append]
theorem contF_none : ∀ {zs : List Zn} {x y : Int}, covF zs x y = false → contF zs x y = (0, 0)
  | [], _, _, _ => rfl
  | z :: r, x, y, h => by
    simp only [covF, List.any_cons, Bool.or_eq_false_iff] at h
    rw [contF, if_neg (by rw [h.1]; simp)]
    exact contF_none h.2
theorem contF_behind : ∀ (zs : List Zn) (z : Zn) (x y : Int), contF (zs ++ [z]) x y = if covF zs x y = true then contF zs x y else if z.has x y = true then (z.l, z.s) else (0, 0)
  | [], z, x, y => by simp [contF, covF]
  | u :: r, z, x, y => by
    rw [List.cons_append, contF, contF, contF_behind r z x y]
    cases hu : u.has x y <;> simp [covF, hu]
theorem contF_ahead (zs : List Zn) (z : Zn) (x y : Int) : contF (z :: zs) x y = if z.has x y = true then (z.l, z.s) else contF zs x y := rfl
theorem infoZ : (Try.prog.info? 41).map (fun i => (i.zero, i.size, i.bytes)) = some (some (.agg #[.int .i64 0, .int .i64 0, .int .i64 0, .int .i64 0, .int .i64 0, .int .u64 0]), 6, 48) := by kernel_rfl
theorem six_new (w : World) (z : Zn) : ∀ j v, z.cells[j]? = some v → (w.alloc (.cells z.cells.toArray 41)).cell? ((⟨w.heap.size, 0, none⟩ : Addr).add j) = some v := by
  intro j v hj
  rw [show ((⟨w.heap.size, 0, none⟩ : Addr).add j) = ⟨w.heap.size, j, none⟩ by unfold Addr.add; split <;> simp_all]
  exact ((CellsAt.new w z.cells 41).2 j v hj).1
/-- a row of one's own that holds zones -/
def OwnZ (B : Nat) (v : Value) (zs : List Zn) (w : World) : Prop := w.ownsRow B 41 6 v zs.length (flatZ zs)
theorem OwnZ.on {B : Nat} {v : Value} {zs : List Zn} {w w' : World} (h : OwnZ B v zs w) (hb : Below w.heap.size w w') : OwnZ B v zs w' := World.ownsRow.kept h (grown_none hb) (by
  rcases h.2 with ⟨rfl, _⟩ | ⟨g, cap, cur, rfl, _⟩
  · exact .inl rfl
  · exact .inr (by simp [Value.ownBlock]))
theorem OwnZ.zones {B n : Nat} {v : Value} {zs : List Zn} {w : World} (h : OwnZ B v zs w) (hn : zs.length = n) (hm : n ≤ 140737488355328) (hu : ∀ z ∈ zs, U z.s) : ∃ A cap, v = .slice A n cap ∧ ZonesR w A n zs := by
  subst hn
  have h0 := h
  rcases h.2 with ⟨rfl, h1⟩ | ⟨g, cap, cur, rfl, hb, hg, hrest⟩
  · exact ⟨_, _, by rw [h1], rfl, hm, hu, fun hn => absurd h1 hn⟩
  · refine ⟨_, _, rfl, ZonesR.of_block rfl hm hu (Array.getElem?_eq_some_iff.1 hg).1 fun j v hj => ?_⟩
    have hl : j < zs.length * 6 := by have := (List.getElem?_eq_some_iff.1 hj).1; rwa [flatZ_length] at this
    exact (World.ownsRow.cellAt h0 j hl).trans hj
/-- the source of 'append(.., l..)': the zones' cells, where there are any -/
theorem ZonesR.news {w : World} {A : Option Addr} {n : Nat} {zs : List Zn} (h : ZonesR w A n zs) (hn : n ≠ 0) : ∃ b o, A = some ⟨b, o, none⟩ ∧ b < w.heap.size ∧ ∀ j v, (flatZ zs)[j]? = some v → w.cell? ((⟨b, o, none⟩ : Addr).add j) = some v := by
  obtain ⟨h1, _, _, h3⟩ := h
  obtain ⟨b, o, rfl, hlt, hc⟩ := h3 hn
  refine ⟨b, o, rfl, hlt, fun j v hj => ?_⟩
  have hl : j < zs.length * 6 := by have := (List.getElem?_eq_some_iff.1 hj).1; rwa [flatZ_length] at this
  have hk : j / 6 < zs.length := by omega
  obtain ⟨z, hz⟩ : ∃ z, zs[j / 6]? = some z := ⟨_, List.getElem?_eq_getElem hk⟩
  obtain ⟨u, hu⟩ : ∃ u, z.cells[j % 6]? = some u := ⟨_, List.getElem?_eq_getElem (by rw [cells_len]; omega)⟩
  have e := flatZ_at zs _ z hz _ u hu
  rw [show j / 6 * 6 + j % 6 = j by omega, hj] at e
  simp only [Option.some.injEq] at e
  subst e
  have h4 := hc _ z hz _ _ hu
  rw [Nat.add_assoc, show j / 6 * 6 + j % 6 = j by omega] at h4
  rw [show ((⟨b, o, none⟩ : Addr).add j) = ⟨b, o + j, none⟩ by unfold Addr.add; split <;> simp_all]
  exact h4
theorem one_flat : ∀ (zs : List Zn), ∀ u ∈ flatZ zs, u.oneCell' = true
  | [], _, h => by cases h
  | z :: r, u, h => by
    rw [flatZ, List.mem_append] at h
    rcases h with h | h
    · simp only [Zn.cells, List.mem_cons, List.not_mem_nil, or_false] at h
      rcases h with rfl | rfl | rfl | rfl | rfl | rfl <;> rfl
    · exact one_flat r u h
/-- 'append(s, x..)' where s is one's own, and x any slice that came in, nil too -/
theorem wpList_append_any {w : World} {ops : Array Oper} {rest : List Oper} {o : Oper} {a : Act} {Q : Exit → Act → World → Prop} (hgd : o.guard = none) (s x : Operand) (t : TypeId)
    (ho : o.op = .call { callee := .builtin .append, args := #[s, x], argTypes := #[t, t] })
    (base : Nat) (e : TypeId) (i : TypeInfo) (z : Value) (size bytes : Nat) (ht : Try.prog.underlying t = some (.slice e)) (hi : Try.prog.info? e = some i) (hz : i.zero = some z)
    (hsize : i.size = size) (hby : i.bytes = bytes) (hzs : z.cells.size = size) (hsz : 0 < size)
    (v : Value) (n : Nat) (xs : List Value) (hs : a.eval s = v) (hown : w.ownsRow base e size v n xs)
    (A : Option Addr) (m c : Nat) (news : List Value) (hx : a.eval x = .slice A m c) (hnil : A = none → m = 0 ∧ c = 0) (hl : news.length = m * size) (hnews : ∀ ad, A = some ad → ∀ j u, news[j]? = some u → w.cell? (ad.add j) = some u) (h1 : ∀ u ∈ news, u.oneCell' = true)
    (h63 : n + m ≤ maxLen) (hbytes : (n + m) * bytes ≤ 140737488355328) (hbase : base ≤ w.heap.size)
    (h : ∀ v' w', w'.ownsRow base e size v' (n + m) (xs ++ news) → w.grownBy w' v.ownBlock → (v'.ownBlock = v.ownBlock ∨ v'.ownBlock = some w.heap.size) → wpList Try.prog ops Q rest (a.put o.dst v') w') :
    wpList Try.prog ops Q (o :: rest) a w := by
  cases A with
  | none =>
    obtain ⟨rfl, rfl⟩ := hnil rfl
    obtain rfl : news = [] := List.eq_nil_of_length_eq_zero (by rw [hl, Nat.zero_mul])
    refine wpList_append_own_none hgd s x t ho base e i size ht hi v n xs hs hown hx ?_
    refine h v w ?_ ⟨rfl, rfl, rfl, Nat.le_refl _, fun _ _ _ => rfl⟩ (.inl rfl)
    rw [List.append_nil]
    exact hown
  | some ad => exact wpList_append_own_at w hgd s x t ho base e i z size bytes ht hi hz hsize hby hzs hsz v n xs hs hown ad m c news hx hl (hnews ad rfl) h1 h63 hbytes hbase fun v' w' h2 h3 _ h5 => h v' w' h2 h3 h5
end Go.Proofs.Ytedpgcmmnmlpeaa.Zone
