/- When a node is right, whatever is below it, in lists and numbers alone.
   Values and references compared. -/
import Derived.Test.YtcgpggknmhlnkaaDoorPs17
import Derived.Test.YtcgpggknmhlnkaaDoorPs18
import Derived.Test.YtcgpggknmhlnkaaDoorPs22
import Derived.Test.YtcgpggknmhlnkaaDoorPs23
import Derived.Test.YtcgpggknmhlnkaaDoorPs07
import Derived.Test.YtcgpggknmhlnkaaDoorPs06
namespace Go.Proofs.YtcgpggknmhlnkaaDoor.Nod
open Go.RowKit Kit Reg
/-- has it no value? no first cell? no second? -/
def zV (h : Hd) : Bool := h.vk == 0 && (h.vn == 0 && h.vt.toList == (⟨#[]⟩ : ByteArray).toList)
def zA (h : Hd) : Bool := h.ar == 0 && (h.ac == 0 && (h.ah == false && h.al == false))
def zB (h : Hd) : Bool := h.br == 0 && (h.bc == 0 && (h.bh == false && h.bl == false))
def bareB (h : Hd) : Bool := zV h && (zA h && zB h)
/-- may a value be written out? -/
def litB (h : Hd) : Bool := decide (1 ≤ h.vk) && (decide (h.vk ≤ 3) && (decide (0 ≤ h.vn) && Val.mayV h.vk h.vn h.vt))
def plainT (h : Hd) : Bool := h.vt.data.toList.all Lex.plainB
theorem all_snoc {α : Type} {p : α → Bool} {l : List α} {k : Nat} {x : α} (h : (l.take k).all p = true) (hx : l[k]? = some x) : (l.take (k + 1)).all p = p x := by
  rw [take_snoc hx, List.all_append, h]
  simp
theorem all_bad {α : Type} {p : α → Bool} {l : List α} {k : Nat} {x : α} (hx : l[k]? = some x) (h : p x = false) : l.all p = false := List.all_eq_false.2 ⟨x, List.mem_of_getElem? hx, by rw [h]; exact Bool.noConfusion⟩
open Classical in
/-- may these nodes be the arguments of these kinds? -/
noncomputable def argsB (kd : Nat → UInt8) (T : List Nd) : Bool := decide (∀ (i : Nat) (x : Nd), T[i]? = some x → argV (kd i) x.1 = true)
theorem argsB_yes {kd : Nat → UInt8} {T : List Nd} (h : ∀ (i : Nat) (x : Nd), T[i]? = some x → argV (kd i) x.1 = true) : argsB kd T = true := by
  classical
  unfold argsB
  exact decide_eq_true h
theorem argsB_no {kd : Nat → UInt8} {T : List Nd} {i : Nat} {x : Nd} (hx : T[i]? = some x) (h : argV (kd i) x.1 = false) : argsB kd T = false := by
  classical
  unfold argsB
  exact decide_eq_false fun h2 => by rw [h2 i x hx] at h; cases h
theorem argsB_one {kd : Nat → UInt8} {T : List Nd} {x : Nd} (hx : T[0]? = some x) (hl : T.length = 1) : argsB kd T = argV (kd 0) x.1 := by
  cases hv : argV (kd 0) x.1 with
  | false => exact argsB_no hx hv
  | true =>
    refine argsB_yes fun i y hy => ?_
    have hi := (List.getElem?_eq_some_iff.1 hy).1
    obtain rfl : i = 0 := by omega
    rw [hx] at hy
    cases hy
    exact hv
theorem argsB_two {kd : Nat → UInt8} {T : List Nd} {x y : Nd} (hx : T[0]? = some x) (hy : T[1]? = some y) (hl : T.length = 2) : argsB kd T = (argV (kd 0) x.1 && argV (kd 1) y.1) := by
  cases hv : argV (kd 0) x.1 with
  | false => exact argsB_no hx hv
  | true =>
    cases hv2 : argV (kd 1) y.1 with
    | false => exact argsB_no hy hv2
    | true =>
      refine argsB_yes fun i z hz => ?_
      have hi := (List.getElem?_eq_some_iff.1 hz).1
      rcases (show i = 0 ∨ i = 1 by omega) with rfl | rfl
      · rw [hx] at hz
        cases hz
        exact hv
      · rw [hy] at hz
        cases hz
        exact hv2
/-- is a node as told, whatever is below it? -/
noncomputable def oneV (x : Nd) : Bool :=
  if x.1.k = 1 then plainT x.1 && ((x.1.op == 0) && (zA x.1 && (zB x.1 && (((arity x.2 : Int) == 0) && litB x.1))))
  else if x.1.k = 2 then (x.1.op == 0) && (bareB x.1 && ((arity x.2 : Int) == 0))
  else if x.1.k = 3 then (x.1.op == 0) && (zV x.1 && (zB x.1 && (((arity x.2 : Int) == 0) && Addr.mayB x.1.ar x.1.ac)))
  else if x.1.k = 4 then (x.1.op == 0) && (zV x.1 && (((arity x.2 : Int) == 0) && (Addr.mayB x.1.ar x.1.ac && Addr.mayB x.1.br x.1.bc)))
  else if x.1.k = 5 then (x.1.op == 0) && (bareB x.1 && (((arity x.2 : Int) == 1) && argsB (fun _ => 118) (tops x.2)))
  else if x.1.k = 6 then decide (1 ≤ x.1.op) && (decide (x.1.op ≤ 12) && (bareB x.1 && (((arity x.2 : Int) == 2) && argsB (fun _ => 118) (tops x.2))))
  else if x.1.k = 7 then bareB x.1 && (Fnm.fitsF x.1.op (arity x.2 : Int) && argsB (fun i => Fnm.kindF x.1.op (i : Int)) (tops x.2))
  else false
end Go.Proofs.YtcgpggknmhlnkaaDoor.Nod
namespace Go.Proofs.YtcgpggknmhlnkaaDoor.Nod
open Go.RowKit Kit Reg
theorem list_of_len3 {α : Type} : ∀ {l : List α}, l.length = 3 → ∃ a b c, l = [a, b, c]
  | [a, b, c], _ => ⟨a, b, c, rfl⟩
theorem list_of_len4 {α : Type} : ∀ {l : List α}, l.length = 4 → ∃ a b c d, l = [a, b, c, d]
  | [a, b, c, d], _ => ⟨a, b, c, d, rfl⟩
theorem fieldsV : (Tryd.prog.fieldsOf 23).toList.map (fun f => (f.name, f.type, f.offset)) = [("Kind", 3, 0), ("Num", 2, 1), ("Text", 9, 2)] := by kernel_rfl
theorem heldV : Tryd.prog.stoodInHeld 23 = false := by kernel_rfl
theorem undV : Tryd.prog.underlying 23 = some (.struct (Tryd.prog.fieldsOf 23)) := by kernel_rfl
set_option maxRecDepth 100000 in
theorem eqV (a b : Int) (s : ByteArray) (a' b' : Int) (s' : ByteArray) (w : World) : (Op.equalIn 10000 23 (.agg #[.int .i64 a, .int .i64 b, .string s]) (.agg #[.int .i64 a', .int .i64 b', .string s'])).run Tryd.prog w = .ok (a == a' && (b == b' && s.toList == s'.toList)) w := by
  rw [run_equalIn_struct w 9999 _ _ _ undV heldV]
  have h := fieldsV
  generalize (Tryd.prog.fieldsOf 23).toList = fs at h
  obtain ⟨f0, f1, f2, rfl⟩ : ∃ f0 f1 f2, fs = [f0, f1, f2] := by
    have hl : fs.length = 3 := by simpa using congrArg List.length h
    exact list_of_len3 hl
  simp only [List.map_cons, List.map_nil, List.cons.injEq, Prod.mk.injEq, and_true] at h
  obtain ⟨⟨n0, t0, o0⟩, ⟨n1, t1, o1⟩, n2, t2, o2⟩ := h
  simp [Op.eqFields, n0, t0, o0, n1, t1, o1, n2, t2, o2, go_sem]
  by_cases h1 : a = a' <;> by_cases h2 : b = b' <;> by_cases h3 : s.toList = s'.toList <;> simp [h1, h2, h3]
theorem run_neqV (a b : Int) (s : ByteArray) (a' b' : Int) (s' : ByteArray) (r : Bool) (hr : (a == a' && (b == b' && s.toList == s'.toList)) = r) (w : World) : (binOp .neq 23 (.agg #[.int .i64 a, .int .i64 b, .string s]) (.agg #[.int .i64 a', .int .i64 b', .string s'])).run Tryd.prog w = .ok (.bool (!r)) w := by
  rw [run_neq_struct, eqV, hr]
  rfl
theorem fieldsF : (Tryd.prog.fieldsOf 25).toList.map (fun f => (f.name, f.type, f.offset)) = [("Row", 3, 0), ("Col", 3, 1), ("HoldRow", 4, 2), ("HoldCol", 4, 3)] := by kernel_rfl
theorem heldF : Tryd.prog.stoodInHeld 25 = false := by kernel_rfl
theorem undF : Tryd.prog.underlying 25 = some (.struct (Tryd.prog.fieldsOf 25)) := by kernel_rfl
set_option maxRecDepth 100000 in
theorem eqF (a b : Int) (p q : Bool) (a' b' : Int) (p' q' : Bool) (w : World) : (Op.equalIn 10000 25 (.agg #[.int .i64 a, .int .i64 b, .bool p, .bool q]) (.agg #[.int .i64 a', .int .i64 b', .bool p', .bool q'])).run Tryd.prog w = .ok (a == a' && (b == b' && (p == p' && q == q'))) w := by
  rw [run_equalIn_struct w 9999 _ _ _ undF heldF]
  have h := fieldsF
  generalize (Tryd.prog.fieldsOf 25).toList = fs at h
  obtain ⟨f0, f1, f2, f3, rfl⟩ : ∃ f0 f1 f2 f3, fs = [f0, f1, f2, f3] := by
    have hl : fs.length = 4 := by simpa using congrArg List.length h
    exact list_of_len4 hl
  simp only [List.map_cons, List.map_nil, List.cons.injEq, Prod.mk.injEq, and_true] at h
  obtain ⟨⟨n0, t0, o0⟩, ⟨n1, t1, o1⟩, ⟨n2, t2, o2⟩, n3, t3, o3⟩ := h
  simp [Op.eqFields, n0, t0, o0, n1, t1, o1, n2, t2, o2, n3, t3, o3, go_sem]
  by_cases h1 : a = a' <;> by_cases h2 : b = b' <;> by_cases h3 : p = p' <;> by_cases h4 : q = q' <;> simp [h1, h2, h3, h4]
theorem run_neqF (a b : Int) (p q : Bool) (a' b' : Int) (p' q' : Bool) (r : Bool) (hr : (a == a' && (b == b' && (p == p' && q == q'))) = r) (w : World) : (binOp .neq 25 (.agg #[.int .i64 a, .int .i64 b, .bool p, .bool q]) (.agg #[.int .i64 a', .int .i64 b', .bool p', .bool q'])).run Tryd.prog w = .ok (.bool (!r)) w := by
  rw [run_neq_struct, eqF, hr]
  rfl
end Go.Proofs.YtcgpggknmhlnkaaDoor.Nod
