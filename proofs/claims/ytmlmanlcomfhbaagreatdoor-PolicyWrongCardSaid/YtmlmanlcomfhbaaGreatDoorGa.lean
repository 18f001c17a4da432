/- Plain facts on sets of categories as numbers below 2^64. No condition; no program is named here.
   A region that draws its order, walked once in the order of the text, though some of its operations make memory: whatever the program. What an operation that makes memory yields is said by a property of its value and its world that lasts while memory grows.
   Words that every stage's contracts use: memory that a call makes, cells that stay, results. No function of the program is named here.
   Memory of four and of five cells: read, and written anew. No function of the program is named here.
   Labels: how two stand, and their join, in plain numbers. No function of the program is named here.
   Columns by their letters, rows by their numbers, cells by their names: in plain lists. No condition; no program is named here.
   Spans of cells: what they are, their meeting, and how they are told, in plain lists and integers. No program is named here.
   Zones: which label a cell has, the join over cells, and which zone is wrong, in plain lists; and slices that read as zones. No function of the program is named here.
   Users and grants: who may act, who may lower, what leaks, and what is wrong, in plain lists; and slices that read as users and as grants. No function of the program is named here.
   The count of a number's bits by sums of neighbouring fields, as plain arithmetic: for every number below 2^64. No program is named here.
   What the small functions of package cats answer, for every input.
   Sets of categories as text, in plain lists: what is told is read back, and only what is told is read. No condition; no program is named here. -/
import Derived.Laws.BitsAllLaws
import Derived.StillTail
import Derived.Lib.QuietBelow
import Derived.Deep.QuietTactic
import Derived.BigQuiet
import Derived.WalkKit
import Derived.WalkSpells
import Derived.WalkLawsBesides
import Derived.Lib.Hide
import Derived.Deep.RegionHeld3
import Derived.Deep.DeepCutAuto
import Derived.Lib.ItoaNum
import Derived.Lib.ItoaMem
import Derived.Lib.IndexAny
import Derived.Lib.Strings
import Derived.Lib.Join
import Derived.Lib.Bytealg
import Derived.Test.YtmlmanlcomfhbaaGreatDoorRows
namespace Go.Proofs.YtmlmanlcomfhbaaGreatDoor.Cats

/-- a set: a number below 2^64 -/
def U (s : Nat) : Prop := s < 18446744073709551616
theorem U.lt {s : Nat} (h : U s) : s < 2 ^ 64 := h
theorem U.of {s : Nat} (h : s < 2 ^ 64) : U s := h

/-- may a number be a category? -/
def mayB (c : Int) : Bool := decide (0 ≤ c) && decide (c < 64)
theorem mayB_yes {c : Int} (h0 : 0 ≤ c) (h1 : c < 64) : mayB c = true := by simp [mayB, h0, h1]
theorem mayB_neg {c : Int} (h : c < 0) : mayB c = false := by simp [mayB]; omega
theorem mayB_big {c : Int} (h : 64 ≤ c) : mayB c = false := by simp [mayB]; omega
theorem of_mayB {c : Int} (h : mayB c = true) : 0 ≤ c ∧ c < 64 := by simpa [mayB] using h
theorem not_mayB {c : Int} (h : mayB c = false) : c < 0 ∨ 64 ≤ c := by
  by_cases h0 : 0 ≤ c
  · right
    by_cases h1 : c < 64
    · rw [mayB_yes h0 h1] at h; cases h
    · omega
  · left; omega

def hasB (s : Nat) (c : Int) : Bool := mayB c && s.testBit c.toNat
def withN (s : Nat) (c : Int) : Nat := if mayB c then s ||| 2 ^ c.toNat else 0
def withoutN (s : Nat) (c : Int) : Nat := if mayB c then s &&& (18446744073709551615 - 2 ^ c.toNat) else s
def withinB (a b : Nat) : Bool := (a &&& (18446744073709551615 - b)) == 0

theorem pow_lt {k : Nat} (hk : k < 64) : 2 ^ k < 2 ^ 64 := Nat.pow_lt_pow_of_lt (by decide) hk
theorem U_pow {k : Nat} (hk : k < 64) : U (2 ^ k) := pow_lt hk
theorem U_or {a b : Nat} (ha : U a) (hb : U b) : U (a ||| b) := U.of (Nat.or_lt_two_pow ha.lt hb.lt)
theorem U_and {a : Nat} (b : Nat) (ha : U a) : U (a &&& b) := Nat.lt_of_le_of_lt Nat.and_le_left ha
theorem U_zero : U 0 := by unfold U; omega
theorem U_with {s : Nat} {c : Int} (hs : U s) : U (withN s c) := by
  unfold withN
  split
  · rename_i h
    obtain ⟨h0, h1⟩ := of_mayB h
    exact U_or hs (U_pow (by omega))
  · exact U_zero

/-- the complement of a number below 2^64 -/
theorem testBit_compl {b : Nat} (hb : U b) (i : Nat) : (18446744073709551615 - b).testBit i = (decide (i < 64) && !b.testBit i) := by
  have h : 18446744073709551615 - b = 2 ^ 64 - (b + 1) := by unfold U at hb; omega
  rw [h, Nat.testBit_two_pow_sub_succ hb]

theorem testBit_lt {s i : Nat} (hs : U s) (h : s.testBit i = true) : i < 64 := by
  by_cases hi : i < 64
  · exact hi
  · rw [Nat.testBit_lt_two_pow (Nat.lt_of_lt_of_le hs.lt (Nat.pow_le_pow_right (by decide) (by omega)))] at h; cases h

theorem shr_and_one (s k : Nat) (_hk : k < 64) : (((s / 2 ^ k % 2 : Nat)) == 1) = s.testBit k := by
  rw [Nat.testBit_eq_decide_div_mod_eq]
  rfl

theorem cast_beq (a b : Nat) : ((a : Int) == (b : Int)) = (a == b) := by rw [Bool.eq_iff_iff]; simp [Int.ofNat_inj]
theorem cast_beq_zero (a : Nat) : ((a : Int) == 0) = (a == 0) := cast_beq a 0
theorem shr_and_one_int (s k : Nat) (hs : U s) : (bits .and .u64 ((s : Int) / 2 ^ k) 1 == 1) = s.testBit k := by
  have e : ((s : Int) / 2 ^ k) = ((s / 2 ^ k : Nat) : Int) := by simp
  have hd : s / 2 ^ k < 18446744073709551616 := Nat.lt_of_le_of_lt (Nat.div_le_self _ _) hs
  have h := u64_and_nat (s / 2 ^ k) 1 hd (by decide)
  rw [e]
  simp only [Int.natCast_one] at h
  rw [h, Nat.and_one_is_mod, Nat.testBit_eq_decide_div_mod_eq]
  by_cases hb : s / 2 ^ k % 2 = 1
  · rw [hb]; rfl
  · simp [hb]; omega
theorem pow_cast (k : Nat) : (2 : Int) ^ k = ((2 ^ k : Nat) : Int) := by simp
theorem wrap_small {n : Nat} (h : n < 18446744073709551616) : IntKind.u64.wrap (n : Int) = n := by
  rw [IntKind.wrap_u64]; omega
theorem wrap_pow (k : Nat) (hk : k < 64) : IntKind.u64.wrap (2 ^ k) = 2 ^ k := by
  rw [pow_cast]
  exact wrap_small (pow_lt hk)
theorem or_pow_int (s k : Nat) (hs : U s) (hk : k < 64) : bits .or .u64 (s : Int) (IntKind.u64.wrap (2 ^ k)) = ((s ||| 2 ^ k : Nat) : Int) := by
  rw [wrap_pow k hk, pow_cast]
  exact u64_or_nat s (2 ^ k) hs (pow_lt hk)
theorem andNot_pow_int (s k : Nat) (hs : U s) (hk : k < 64) : bits .andNot .u64 (s : Int) (IntKind.u64.wrap (2 ^ k)) = ((s &&& (18446744073709551615 - 2 ^ k) : Nat) : Int) := by
  rw [wrap_pow k hk, pow_cast]
  exact u64_andNot_nat s (2 ^ k) hs (pow_lt hk)
theorem andNot_zero_int (a b : Nat) (ha : U a) (hb : U b) : (bits .andNot .u64 (a : Int) (b : Int) == 0) = withinB a b := by
  rw [u64_andNot_nat a b ha hb, withinB]
  exact cast_beq_zero _
/-- how many are in a set -/
def pop (s : Nat) : Nat := ((List.range 64).filter s.testBit).length

end Go.Proofs.YtmlmanlcomfhbaaGreatDoor.Cats
namespace Go.Proofs.YtmlmanlcomfhbaaGreatDoor.Reg
open Go Go.RowKit Go.Sort

/-- the worlds in which what was there when the region began is unchanged -/
def Cls (w0 w : World) : Prop := ∃ p : Regrown, w = grow (redrawn w0 p.d) p.os
theorem Cls.below {w0 w : World} (h : Cls w0 w) : Below w0.heap.size w0 w := by
  obtain ⟨p, rfl⟩ := h
  exact below_regrown _ _ _
theorem Cls.of {w0 w : World} (h : Below w0.heap.size w0 w) : Cls w0 w := regrown_of_below h
theorem Cls.grown {w0 w w' : World} (h : Cls w0 w) (hb : Below w.heap.size w w') : Cls w0 w' := Cls.of (h.below.trans (hb.mono h.below.size))

/-- what is known of the values that operations yielded, by the operations' numbers -/
structure Fct where
  f : Nat → World → Prop
  /-- which operation made which block -/
  g : Nat → Nat → Prop
instance : CoeFun Fct (fun _ => Nat → World → Prop) := ⟨Fct.f⟩
/-- it held once, and since then memory has only grown -/
def Up (q : World → Prop) (w : World) : Prop := ∃ w1, q w1 ∧ Below w1.heap.size w1 w
theorem Up.here {q : World → Prop} {w : World} (h : q w) : Up q w := ⟨w, h, Below.refl _ _⟩
theorem Up.grown {q : World → Prop} {w w' : World} (h : Up q w) (hb : Below w.heap.size w w') : Up q w' := by
  obtain ⟨w1, h1, h2⟩ := h
  exact ⟨w1, h1, h2.trans (hb.mono h2.size)⟩
def Fct.put (F : Fct) (k : Nat) (q : World → Prop) (B : Option Nat) : Fct := ⟨fun m w => F m w ∧ (m = k → Up q w), fun m c => F.g m c ∨ (m = k ∧ B = some c)⟩
theorem Fct.put_at {F : Fct} {k : Nat} {q : World → Prop} {B : Option Nat} {w : World} (h : (F.put k q B) k w) : Up q w := h.2 rfl
theorem Fct.put_old {F : Fct} {k : Nat} {q : World → Prop} {B : Option Nat} {m : Nat} {w : World} (h : (F.put k q B) m w) : F m w := h.1
def Fct.Lasts (F : Fct) : Prop := ∀ m w w', F m w → Below w.heap.size w w' → F m w'
theorem Fct.Lasts.put {F : Fct} (h : F.Lasts) (k : Nat) (q : World → Prop) (B : Option Nat) : (F.put k q B).Lasts := fun m w w' ⟨h1, h2⟩ hb => ⟨h m w w' h1 hb, fun e => (h2 e).grown hb⟩
theorem Fct.put_comm (F : Fct) (i j : Nat) (p q : World → Prop) (B C : Option Nat) : (F.put i p B).put j q C = (F.put j q C).put i p B := by
  unfold Fct.put
  congr 1
  · funext m w
    exact propext ⟨fun ⟨⟨a, b⟩, c⟩ => ⟨⟨a, c⟩, b⟩, fun ⟨⟨a, b⟩, c⟩ => ⟨⟨a, c⟩, b⟩⟩
  · funext m c
    exact propext ⟨fun h => h.elim (fun h => h.elim (fun h => .inl (.inl h)) .inr) (fun h => .inl (.inr h)), fun h => h.elim (fun h => h.elim (fun h => .inl (.inl h)) .inr) (fun h => .inl (.inr h))⟩
/-- what was made lies there, and no two operations made one block -/
def Fct.Apart (F : Fct) : Prop := ∀ m c n d, F.g m c → F.g n d → m ≠ n → c ≠ d
def Fct.Good (F : Fct) (w : World) : Prop := F.Lasts ∧ F.Apart ∧ (∀ m, F m w) ∧ ∀ m c, F.g m c → c < w.heap.size
theorem Fct.Good.grown {F : Fct} {w w' : World} (h : F.Good w) (hb : Below w.heap.size w w') : F.Good w' :=
  ⟨h.1, h.2.1, fun m => h.1 m w w' (h.2.2.1 m) hb, fun m c hc => Nat.lt_of_lt_of_le (h.2.2.2 m c hc) hb.size⟩
/-- the block of new memory -/
def blockOf : Value → Option Nat
  | .pointer (some a) => some a.block
  | .slice (some a) _ _ => some a.block
  | _ => none
/-- .. of which it is said that it is new -/
def fresh (nu : Bool) (w : World) (t : Value → World → Prop) (v : Value) (w' : World) : Prop := t v w' ∧ (nu = true → ∃ b, blockOf v = some b ∧ w.heap.size ≤ b ∧ b < w'.heap.size)
def newB (nu : Bool) (v : Value) : Option Nat := if nu = true then blockOf v else none
theorem Fct.Good.made {F : Fct} {w w' : World} {k : Nat} {nu : Bool} {t : Value → World → Prop} {v : Value} (h : F.Good w) (hb : Below w.heap.size w w') (ht : fresh nu w t v w') : (F.put k (t v) (newB nu v)).Good w' := by
  have hg := h.grown hb
  have hn : ∀ c, newB nu v = some c → w.heap.size ≤ c ∧ c < w'.heap.size := by
    intro c hc
    unfold newB at hc
    split at hc
    · rename_i hnu
      obtain ⟨b, h1, h2, h3⟩ := ht.2 hnu
      rw [h1] at hc
      cases hc
      exact ⟨h2, h3⟩
    · cases hc
  refine ⟨h.1.put _ _ _, ?_, fun m => ⟨hg.2.2.1 m, fun _ => Up.here ht.1⟩, ?_⟩
  · intro m c n d h1 h2 hmn
    rcases h1 with h1 | ⟨rfl, h1⟩ <;> rcases h2 with h2 | ⟨rfl, h2⟩
    · exact h.2.1 m c n d h1 h2 hmn
    · have := h.2.2.2 m c h1
      have := (hn d h2).1
      omega
    · have := h.2.2.2 n d h2
      have := (hn c h1).1
      omega
    · exact absurd rfl hmn
  · intro m c h1
    rcases h1 with h1 | ⟨_, h1⟩
    · exact hg.2.2.2 m c h1
    · exact (hn c h1).2
/-- there is a world in which all of it holds -/
def Cons (w0 : World) (F : Fct) : Prop := ∃ w, Cls w0 w ∧ F.Good w
theorem Cons.drop {w0 : World} {F : Fct} {k : Nat} {q : World → Prop} {B : Option Nat} (hl : F.Lasts) (h : Cons w0 (F.put k q B)) : Cons w0 F := by
  obtain ⟨w, h1, _, h3, h4, h5⟩ := h
  exact ⟨w, h1, hl, fun m c n d a b => h3 m c n d (.inl a) (.inl b), fun m => (h4 m).1, fun m c a => h5 m c (.inl a)⟩
theorem Cons.lasts {w0 : World} {F : Fct} (h : Cons w0 F) : F.Lasts := by
  obtain ⟨_, _, h, _⟩ := h
  exact h
theorem Cons.fact {w0 : World} {F : Fct} {k : Nat} {q : World → Prop} {B : Option Nat} (h : Cons w0 (F.put k q B)) : ∃ w, q w := by
  obtain ⟨w, _, _, _, h2, _⟩ := h
  obtain ⟨w1, h3, _⟩ := (h2 k).2 rfl
  exact ⟨w1, h3⟩

section
variable {P : Program} {ops : Array Oper} {md : Region.Mode} {w0 : World} {T : Tmp → Option (Value → World → Prop)} {N : Tmp → Bool}

/-- what is known of the values that an operation looks at -/
def looks (ops : Array Oper) (F : Fct) (o : Oper) (w : World) : Prop := ∀ k ok d, ops[k]? = some ok → ok.dst = some d → d ∈ o.looksAt ops → F k w
def variesUpon (P : Program) (w : World) (t : Value → World → Prop) : Result Next → Prop
  | .ok (.value u) w' => Below w.heap.size w w' ∧ t u w'
  | .ok (.enter f args) w' => w' = w ∧ Calls P f args w (fun e w'' => ∃ v, e = .returned v ∧ Below w.heap.size w w'' ∧ t v w'')
  | _ => False
def varies (P : Program) (ops : Array Oper) (w0 : World) (o : Oper) (a : Act) (F : Fct) (nu : Bool) (t : Value → World → Prop) : Prop :=
  ∀ w, Cls w0 w → looks ops F o w → variesUpon P w (fresh nu w t) ((execOp a.eval o).run P w)
/-- an operation that calls nothing -/
def calm (o : Oper) : Bool :=
  match o.op with
  | .move _ | .assign _ | .pick .. | .build .. | .load .. | .binOp .. | .unOp .. | .convert .. | .fieldAddr .. | .field .. | .indexAddr .. | .index .. | .extract .. | .slice .. | .makeInterface .. => true
  | .call c => match c.callee with
    | .builtin .len | .builtin .cap | .builtin .min | .builtin .max => true
    | _ => false
  | _ => false
theorem not_enter {α : Type} (s : Sem α) (g : α → Value) (w : World) (f : FuncId) (args : Array Value) (w' : World) : (do let x ← s; pure (Next.value (g x)) : Sem Next).run P w ≠ .ok (.enter f args) w' := by
  rw [Sem.run_bind]
  cases s.run P w with
  | ok v w1 => intro h; simp [Result.andThen] at h
  | halt x w1 => intro h; simp [Result.andThen] at h
theorem calm_spec {o : Oper} (h : calm o = true) (a : Act) (w : World) (f : FuncId) (args : Array Value) (w' : World) : (execOp a.eval o).run P w ≠ .ok (.enter f args) w' := by
  obtain ⟨dst, op, ty, pos, aft, g⟩ := o
  unfold calm at h
  cases op <;> simp only [Bool.false_eq_true] at h <;> unfold execOp <;> simp only []
  case pick => exact not_enter _ (fun x => if x = true then _ else _) _ _ _ _
  case call c =>
    obtain ⟨cal, ar, at'⟩ := c
    cases cal with
    | builtin b =>
      cases b <;> simp only [Bool.false_eq_true] at h <;> exact not_enter _ id _ _ _ _
    | value f => simp at h
    | invoke r n => simp at h
  all_goals first
    | exact not_enter _ id _ _ _ _
    | (intro hh; simp at hh; done)

/-- one operation: where it is wanted, either it calls nothing and yields one value in every world of the class; or what it yields has the property that the table names -/
def opM (P : Program) (ops : Array Oper) (w0 : World) (T : Tmp → Option (Value → World → Prop)) (N : Tmp → Bool) (o : Oper) (k : Nat) (K : Act → Fct → Prop) (a : Act) (F : Fct) : Prop :=
  if Region.wanted o (yielded ops a.tmps) then
    match o.dst.bind T with
    | none => calm o = true ∧ ∃ v, (∀ w, Cls w0 w → o.quietAt P a (Cls w0) w v) ∧ K (a.put o.dst v) F
    | some t => varies P ops w0 o a F (o.dst.any N) t ∧ ∀ v, Cons w0 (F.put k (t v) (newB (o.dst.any N) v)) → K (a.put o.dst v) (F.put k (t v) (newB (o.dst.any N) v))
  else K (a.put o.dst undef) F
theorem opM_mono {o : Oper} {k : Nat} {K K' : Act → Fct → Prop} {a : Act} {F : Fct} (h : ∀ a F, K a F → K' a F) (hh : opM P ops w0 T N o k K a F) : opM P ops w0 T N o k K' a F := by
  unfold opM at *
  split
  · rename_i hw
    rw [if_pos hw] at hh
    split
    · rename_i ht
      simp only [ht] at hh
      obtain ⟨h1, v, h2, h3⟩ := hh
      exact ⟨h1, v, h2, h _ _ h3⟩
    · rename_i t ht
      simp only [ht] at hh
      exact ⟨hh.1, fun v hv => h _ _ (hh.2 v hv)⟩
  · rename_i hw
    rw [if_neg hw] at hh
    exact h _ _ hh
theorem opM_cons {o : Oper} {k : Nat} {K : Act → Fct → Prop} {a : Act} {F : Fct} (hc : Cons w0 F) (hh : opM P ops w0 T N o k K a F) : opM P ops w0 T N o k (fun a F => Cons w0 F ∧ K a F) a F := by
  unfold opM at *
  split
  · rename_i hw
    rw [if_pos hw] at hh
    split
    · rename_i ht
      simp only [ht] at hh
      obtain ⟨h1, v, h2, h3⟩ := hh
      exact ⟨h1, v, h2, hc, h3⟩
    · rename_i t ht
      simp only [ht] at hh
      exact ⟨hh.1, fun v hv => ⟨hv, hh.2 v hv⟩⟩
  · rename_i hw
    rw [if_neg hw] at hh
    exact ⟨hc, hh⟩
/-- a call that has the property yields some value that has it -/
theorem calls_some {f : FuncId} {args : Array Value} {w : World} {R : Ending → World → Prop} (h : Calls P f args w R) : ∃ e w', R e w' := by
  obtain ⟨e, w', _, hr, _⟩ := h []
  exact ⟨e, w', hr⟩
theorem varies_cons {o : Oper} {k : Nat} {a : Act} {F : Fct} {nu : Bool} {t : Value → World → Prop} (hc : Cons w0 F) (h : varies P ops w0 o a F nu t) : ∃ v, Cons w0 (F.put k (t v) (newB nu v)) := by
  obtain ⟨w, h1, h2⟩ := hc
  have h3 := h w h1 fun m _ _ _ _ _ => h2.2.2.1 m
  generalize (execOp a.eval o).run P w = r at h3
  have fin : ∀ v w', Below w.heap.size w w' → fresh nu w t v w' → ∃ v, Cons w0 (F.put k (t v) (newB nu v)) := fun v w' hb ht => ⟨v, w', h1.grown hb, h2.made hb ht⟩
  cases r with
  | ok n w' =>
    cases n <;> simp only [variesUpon] at h3
    case value u => exact fin u w' h3.1 h3.2
    case enter f args =>
      obtain ⟨rfl, hcall⟩ := h3
      obtain ⟨e, w'', v, _, hb, ht⟩ := calls_some hcall
      exact fin v w'' hb ht
  | halt x w' => simp only [variesUpon] at h3
theorem quietAt_unique {o : Oper} {a : Act} {C : World → Prop} {w : World} {v v' : Value} (hcalm : calm o = true) (h : o.quietAt P a C w v) (h' : o.quietAt P a C w v') : v = v' := by
  unfold Oper.quietAt at h h'
  have hne := calm_spec (P := P) hcalm a w
  generalize (execOp a.eval o).run P w = r at h h' hne
  cases r with
  | ok n w' =>
    cases n <;> simp only [Oper.quietUpon] at h h'
    case value u => rw [← h.2, ← h'.2]
    case skip => rw [h.2, h'.2]
    case enter f args => exact absurd rfl (hne f args w')
  | halt x w' => simp only [Oper.quietUpon] at h
theorem looks_put {o : Oper} {F : Fct} {i : Nat} {oi : Oper} {q : World → Prop} {B : Option Nat} {w : World} (hi : ops[i]? = some oi) (hd : ∀ d, oi.dst = some d → d ∉ o.looksAt ops) : looks ops (F.put i q B) o w ↔ looks ops F o w := by
  refine ⟨fun h k ok d hk hdst hl => (h k ok d hk hdst hl).1, fun h k ok d hk hdst hl => ⟨h k ok d hk hdst hl, fun e => ?_⟩⟩
  subst e
  rw [hi] at hk
  obtain rfl := Option.some.inj hk
  exact absurd hl (hd d hdst)
theorem varies_put {oi oj : Oper} {i : Nat} {a : Act} {F : Fct} {q : World → Prop} {B : Option Nat} {v : Value} {nu : Bool} {t : Value → World → Prop} (hi : ops[i]? = some oi) (hs : ∀ cs b, oj.op ≠ .select cs b) (hd : ∀ d, oi.dst = some d → d ∉ oj.looksAt ops) :
    varies P ops w0 oj (a.put oi.dst v) (F.put i q B) nu t ↔ varies P ops w0 oj a F nu t := by
  unfold varies
  rw [execOp_put oj hs a oi.dst v hd]
  exact ⟨fun h w hw hl => h w hw ((looks_put hi hd).2 hl), fun h w hw hl => h w hw ((looks_put hi hd).1 hl)⟩
theorem varies_put0 {oi oj : Oper} {a : Act} {F : Fct} {v : Value} {nu : Bool} {t : Value → World → Prop} (hs : ∀ cs b, oj.op ≠ .select cs b) (hd : ∀ d, oi.dst = some d → d ∉ oj.looksAt ops) :
    varies P ops w0 oj (a.put oi.dst v) F nu t ↔ varies P ops w0 oj a F nu t := by
  unfold varies
  rw [execOp_put oj hs a oi.dst v hd]
theorem quiet_put {oi oj : Oper} {a : Act} {C : World → Prop} {w : World} {v u : Value} (hs : ∀ cs b, oj.op ≠ .select cs b) (hd : ∀ d, oi.dst = some d → d ∉ oj.looksAt ops) :
    oj.quietAt P (a.put oi.dst v) C w u ↔ oj.quietAt P a C w u := by
  unfold Oper.quietAt
  rw [execOp_put oj hs a oi.dst v hd]
/-- two operations of which neither looks at the other one's value may change places -/
theorem opM_swap {i j : Nat} {oi oj : Oper} (hi : ops[i]? = some oi) (hj : ops[j]? = some oj) (hap : oi.apart ops oj = true) (hsi : ∀ cs b, oi.op ≠ .select cs b) (hsj : ∀ cs b, oj.op ≠ .select cs b)
    {K : Act → Fct → Prop} {a : Act} {F : Fct} (hc : Cons w0 F) (h : opM P ops w0 T N oi i (opM P ops w0 T N oj j K) a F) : opM P ops w0 T N oj j (opM P ops w0 T N oi i K) a F := by
  obtain ⟨E1, E2, E3⟩ := Oper.apart_spec hap
  have Wj : ∀ v, Region.wanted oj (yielded ops (a.put oi.dst v).tmps) = Region.wanted oj (yielded ops a.tmps) := fun v => wanted_put oj a oi.dst v E1
  have Wi : ∀ v, Region.wanted oi (yielded ops (a.put oj.dst v).tmps) = Region.wanted oi (yielded ops a.tmps) := fun v => wanted_put oi a oj.dst v E3
  have PC : ∀ v u, (a.put oi.dst v).put oj.dst u = (a.put oj.dst u).put oi.dst v := fun v u => Act.put_comm a v u E2
  have VJ0 : ∀ v nu t, varies P ops w0 oj (a.put oi.dst v) F nu t ↔ varies P ops w0 oj a F nu t := fun v nu t => varies_put0 hsj E1
  have VI0 : ∀ v nu t, varies P ops w0 oi (a.put oj.dst v) F nu t ↔ varies P ops w0 oi a F nu t := fun v nu t => varies_put0 hsi E3
  have VJ : ∀ v nu t q B, varies P ops w0 oj (a.put oi.dst v) (F.put i q B) nu t ↔ varies P ops w0 oj a F nu t := fun v nu t q B => varies_put hi hsj E1
  have VI : ∀ v nu t q B, varies P ops w0 oi (a.put oj.dst v) (F.put j q B) nu t ↔ varies P ops w0 oi a F nu t := fun v nu t q B => varies_put hj hsi E3
  have QJ : ∀ v w u, oj.quietAt P (a.put oi.dst v) (Cls w0) w u ↔ oj.quietAt P a (Cls w0) w u := fun v w u => quiet_put hsj E1
  have QI : ∀ v w u, oi.quietAt P (a.put oj.dst v) (Cls w0) w u ↔ oi.quietAt P a (Cls w0) w u := fun v w u => quiet_put hsi E3
  unfold opM at *
  simp only [Wi, Wj, PC, VJ0, VI0, VJ, VI, QJ, QI] at *
  cases hwi : Region.wanted oi (yielded ops a.tmps) <;> cases hwj : Region.wanted oj (yielded ops a.tmps) <;> simp only [hwi, hwj, if_true, if_false, Bool.false_eq_true] at h ⊢
  · exact h
  · cases htj : oj.dst.bind T with
    | none => simp only [htj] at h ⊢; exact h
    | some t => simp only [htj] at h ⊢; exact h
  · cases hti : oi.dst.bind T with
    | none => simp only [hti] at h ⊢; exact h
    | some t => simp only [hti] at h ⊢; exact h
  · cases hti : oi.dst.bind T with
    | none =>
      simp only [hti] at h ⊢
      obtain ⟨h1, v, h2, h3⟩ := h
      cases htj : oj.dst.bind T with
      | none =>
        simp only [htj] at h3 ⊢
        obtain ⟨h4, u, h5, h6⟩ := h3
        exact ⟨h4, u, h5, h1, v, h2, h6⟩
      | some t =>
        simp only [htj] at h3 ⊢
        exact ⟨h3.1, fun u hu => ⟨h1, v, h2, h3.2 u hu⟩⟩
    | some s =>
      simp only [hti] at h ⊢
      obtain ⟨h1, h2⟩ := h
      obtain ⟨v0, hv0⟩ := varies_cons (k := i) hc h1
      cases htj : oj.dst.bind T with
      | none =>
        simp only [htj] at h2 ⊢
        obtain ⟨h3, u, h4, _⟩ := h2 v0 hv0
        refine ⟨h3, u, h4, h1, fun v hv => ?_⟩
        obtain ⟨_, u', h4', h5'⟩ := h2 v hv
        obtain ⟨w, hw, _⟩ := hc
        obtain rfl := quietAt_unique h3 (h4 w hw) (h4' w hw)
        exact h5'
      | some t =>
        simp only [htj] at h2 ⊢
        refine ⟨(h2 v0 hv0).1, fun u hu => ⟨h1, fun v hv => ?_⟩⟩
        rw [Fct.put_comm] at hv ⊢
        exact (h2 v (hv.drop (hc.lasts.put _ _ _))).2 u hv
/-- the operation of this number -/
def opAt (P : Program) (ops : Array Oper) (w0 : World) (T : Tmp → Option (Value → World → Prop)) (N : Tmp → Bool) (i : Nat) (K : Act → Fct → Prop) (a : Act) (F : Fct) : Prop :=
  match ops[i]? with
  | none => K a F
  | some o => opM P ops w0 T N o i K a F
theorem opAt_some {i : Nat} {o : Oper} {K : Act → Fct → Prop} {a : Act} {F : Fct} (hi : ops[i]? = some o) : opAt P ops w0 T N i K a F = opM P ops w0 T N o i K a F := by
  unfold opAt
  simp only [hi]
theorem opM_some {o : Oper} {k : Nat} {K : Act → Fct → Prop} {a : Act} {F : Fct} (hc : Cons w0 F) (h : opM P ops w0 T N o k K a F) : ∃ a' F', K a' F' := by
  unfold opM at h
  split at h
  · split at h
    · obtain ⟨_, v, _, h3⟩ := h; exact ⟨_, _, h3⟩
    · obtain ⟨v, hv⟩ := varies_cons (k := k) hc h.1
      exact ⟨_, _, h.2 v hv⟩
  · exact ⟨_, _, h⟩
theorem wpOp_of_opAt {i : Nat} {K : Act → Fct → Prop} {K' : Act → World → Prop} {Q' : Exit → Act → World → Prop} {a : Act} {F : Fct} {w : World} (hw : Cls w0 w) (hF : F.Good w)
    (h : ∀ a F w', Cls w0 w' → F.Good w' → K a F → K' a w') (hh : opAt P ops w0 T N i K a F) : wpOp P ops Q' i K' a w := by
  unfold opAt at hh
  unfold wpOp
  split
  · rename_i ho; simp only [ho] at hh; exact h _ _ _ hw hF hh
  · rename_i o ho
    simp only [ho, opM] at hh
    split
    · rename_i hwant
      rw [if_pos hwant] at hh
      refine .inl ?_
      unfold Oper.wp
      cases ht : o.dst.bind T with
      | none =>
        simp only [ht] at hh
        obtain ⟨hcalm, v, hq, hK⟩ := hh
        have h3 := hq w hw
        unfold Oper.quietAt at h3
        have hne := calm_spec (P := P) hcalm a w
        generalize (execOp a.eval o).run P w = r at h3 hne
        cases r with
        | ok n w' =>
          cases n <;> simp only [Oper.quietUpon] at h3 <;> simp only [Oper.upon]
          case value u => obtain ⟨e1, e2⟩ := h3; rw [e1, e2]; exact h _ _ _ hw hF hK
          case skip => obtain ⟨e1, e2⟩ := h3; rw [e1, ← e2]; exact h _ _ _ hw hF hK
          case enter f args => exact absurd rfl (hne f args w')
        | halt x w' => simp only [Oper.quietUpon] at h3
      | some t =>
        simp only [ht] at hh
        obtain ⟨hv, hK⟩ := hh
        have h3 := hv w hw fun m _ _ _ _ _ => hF.2.2.1 m
        have fin : ∀ v w', Below w.heap.size w w' → fresh (o.dst.any N) w t v w' → K' (a.put o.dst v) w' := fun v w' hb htv =>
          have hm := hF.made (k := i) hb htv
          h _ _ _ (hw.grown hb) hm (hK v ⟨w', hw.grown hb, hm⟩)
        generalize (execOp a.eval o).run P w = r at h3
        cases r with
        | ok n w' =>
          cases n <;> simp only [variesUpon] at h3 <;> simp only [Oper.upon]
          case value u => exact fin u w' h3.1 h3.2
          case enter f args =>
            obtain ⟨e1, hcall⟩ := h3
            rw [e1]
            exact hcall.mono fun e w'' ⟨v, he, hb, htv⟩ => by subst he; exact fin v w'' hb htv
        | halt x w' => simp only [variesUpon] at h3
    · rename_i hwant
      rw [if_neg hwant] at hh
      exact h _ _ _ hw hF hh

def wpAnyM (P : Program) (md : Region.Mode) (ops : Array Oper) (w0 : World) (T : Tmp → Option (Value → World → Prop)) (N : Tmp → Bool) (n : Nat) (L : Array Bool → Act → Fct → Prop) : Nat → Array Bool → Act → Fct → Prop
  | 0, listed, a, F => L listed a F
  | f + 1, listed, a, F =>
    Region.ready md ops listed ≠ [] ∧ ∀ i ∈ Region.ready md ops listed, i < n ∧ opAt P ops w0 T N i (wpAnyM P md ops w0 T N n L f (listed.setIfInBounds i true)) a F
theorem wpAny_of_headM {n g : Nat} {L : Array Bool → Act → Fct → Prop} {Q' : Exit → Act → World → Prop} (hL : ∀ listed a F w, Cls w0 w → F.Good w → L listed a F → wpAny P md ops Q' g listed a w) :
    ∀ (f : Nat) (listed : Array Bool) (a : Act) (F : Fct) (w : World), Cls w0 w → F.Good w → wpAnyM P md ops w0 T N n L f listed a F → wpAny P md ops Q' (f + g) listed a w
  | 0, listed, a, F, w, hw, hF, h => by rw [Nat.zero_add]; exact hL _ _ _ _ hw hF h
  | f + 1, listed, a, F, w, hw, hF, h => by
    rw [show f + 1 + g = (f + g) + 1 by omega]
    exact ⟨fun h0 => absurd h0 h.1, fun i hi => wpOp_of_opAt hw hF (fun a' F' w' hw' hF' h' => wpAny_of_headM hL f _ a' F' w' hw' hF' h') (h.2 i hi).2⟩

theorem wpAnyM_first {n i : Nat} {oi : Oper} {L : Array Bool → Act → Fct → Prop} (hi : ops[i]? = some oi) (hsel : ∀ (j : Nat) (o : Oper) cs b, ops[j]? = some o → o.op ≠ .select cs b)
    (hwait : ∀ listed, HeadInv md ops n listed → ∀ i, i < n → listed.getD i true = false → ∀ t, n ≤ t → t ∉ Region.ready md ops listed) (hin : i < n)
    (hdone : ∀ listed a F, L listed a F → ∀ j ∈ Region.ready md ops listed, n ≤ j) :
    ∀ (f : Nat) (listed : Array Bool) (a : Act) (F : Fct), HeadInv md ops n listed →
      (∀ j oj, ops[j]? = some oj → j ≠ i → listed.getD j true = false → (∀ e ∈ oj.after, Region.binds md e = true → e.on ≠ i) → oi.apart ops oj = true) →
      i ∈ Region.ready md ops listed → Cons w0 F →
      opM P ops w0 T N oi i (wpAnyM P md ops w0 T N n L f (listed.setIfInBounds i true)) a F → wpAnyM P md ops w0 T N n L (f + 1) listed a F := by
  intro f
  induction f with
  | zero =>
    intro listed a F inv _ hr hc H
    have hun := (mem_ready.1 hr).1
    refine ⟨fun h => (by rw [h] at hr; cases hr), fun j hj => ?_⟩
    have hjn : j < n := by
      rcases Nat.lt_or_ge j n with h | h
      · exact h
      · exact absurd hj (hwait _ inv i hin hun j h)
    refine ⟨hjn, ?_⟩
    by_cases hji : j = i
    · subst hji; rw [opAt_some hi]; exact H
    · obtain ⟨a', F', hL⟩ := opM_some hc H
      have := hdone _ _ _ hL j (ready_mono hj hji)
      omega
  | succ f ih =>
    intro listed a F inv hfree hr hc H
    have hun := (mem_ready.1 hr).1
    refine ⟨fun h => (by rw [h] at hr; cases hr), fun j hj => ?_⟩
    have hjn : j < n := by
      rcases Nat.lt_or_ge j n with h | h
      · exact h
      · exact absurd hj (hwait _ inv i hin hun j h)
    refine ⟨hjn, ?_⟩
    by_cases hji : j = i
    · subst hji; rw [opAt_some hi]; exact H
    · obtain ⟨hjun, oj, hoj, hall⟩ := mem_ready.1 hj
      have h1 : opM P ops w0 T N oi i (opM P ops w0 T N oj j (wpAnyM P md ops w0 T N n L f ((listed.setIfInBounds i true).setIfInBounds j true))) a F :=
        opM_mono (fun a1 F1 h => by
          have := (h.2 j (ready_mono hj hji)).2
          rwa [opAt_some hoj] at this) H
      have hnot : ∀ e ∈ oj.after, Region.binds md e = true → e.on ≠ i := fun e he hb heq => by
        have h1 := hall e he hb
        rw [heq, getD_both hun] at h1
        cases h1
      have h2 := opM_cons hc (opM_swap hi hoj (hfree j oj hoj hji hjun hnot) (fun cs b => hsel i oi cs b hi) (fun cs b => hsel j oj cs b hoj) hc h1)
      have hfree' : ∀ k ok, ops[k]? = some ok → k ≠ i → (listed.setIfInBounds j true).getD k true = false →
          (∀ e ∈ ok.after, Region.binds md e = true → e.on ≠ i) → oi.apart ops ok = true := fun k ok hk hki hun hno => by
        refine hfree k ok hk hki ?_ hno
        by_cases hjk : j = k
        · subst hjk; exact hjun
        · rw [getD_set_ne true hjk] at hun; exact hun
      rw [opAt_some hoj]
      refine opM_mono (fun a' F' h3 => ih (listed.setIfInBounds j true) a' F' (inv.set hj hjn) hfree' (ready_mono hr (Ne.symm hji)) h3.1 ?_) h2
      rw [Array.setIfInBounds_comm _ _ hji]
      exact h3.2

/-- the walk: the operations in the order of the text -/
def wpM (P : Program) (ops : Array Oper) (w0 : World) (T : Tmp → Option (Value → World → Prop)) (N : Tmp → Bool) (Q : Act → Fct → Prop) : List Oper → Nat → Act → Fct → Prop
  | [], _, a, F => Q a F
  | o :: rest, k, a, F => opM P ops w0 T N o k (wpM P ops w0 T N Q rest (k + 1)) a F
theorem wpAnyM_lex {n g : Nat} {Lq : Act → Fct → Prop} (hsel : Region.noSelect ops = true)
    (hwait : ∀ listed, HeadInv md ops n listed → ∀ i, i < n → listed.getD i true = false → ∀ t, n ≤ t → t ∉ Region.ready md ops listed) :
    ∀ (l : List Oper) (k : Nat) (listed : Array Bool) (a : Act) (F : Fct), (∀ j, j < l.length → l[j]? = ops[k + j]?) → k + l.length = n → HeadInv md ops n listed →
    Region.lexHead md ops g l.length k listed = true → Cons w0 F → wpM P ops w0 T N Lq l k a F →
    wpAnyM P md ops w0 T N n (fun listed' a' F' => Region.seqB md ops g n listed' = true ∧ Lq a' F') l.length listed a F
  | [], k, listed, a, F, _, hk, _, hB, _, h => by
    have : k = n := by simpa using hk
    subst this
    exact ⟨by simpa [Region.lexHead] using hB, h⟩
  | o :: l, k, listed, a, F, hl, hk, inv, hB, hc, h => by
    have h0 : ops[k]? = some o := by simpa using (hl 0 (by simp)).symm
    simp only [List.length_cons, Region.lexHead, Bool.and_eq_true] at hB
    obtain ⟨⟨hr, hf⟩, hB'⟩ := hB
    have hkn : k < n := by simp only [List.length_cons] at hk; omega
    have hr' : k ∈ Region.ready md ops listed := by simpa using hr
    exact wpAnyM_first h0 (Region.noSelect_spec hsel) hwait hkn (fun listed' a' F' hL => seqB_ready hL.1) l.length listed a F inv (Region.free_spec h0 hf) hr' hc
      (opM_mono (fun a1 F1 h1 => wpAnyM_lex hsel hwait l (k + 1) _ a1 F1 (fun j hj => by have := hl (j + 1) (by simp; omega); simpa [Nat.add_assoc, Nat.add_comm 1 j] using this) (by simp only [List.length_cons] at hk; omega) (inv.set hr' hkn) hB' h1.1 h1.2) (opM_cons hc h))

/-- the first n operations may be walked in the order of the text, and the rest comes behind them, one after another -/
def memB (md : Region.Mode) (ops : Array Oper) (n : Nat) : Bool :=
  Region.noSelect ops && (decide (n = ops.size) || (decide (n < ops.size) && Region.sinkB md ops n && Region.chainB md ops n)) && Region.lexHead md ops (ops.size - n) n 0 (Array.replicate ops.size false)
def noFct : Fct := ⟨fun _ _ => True, fun _ _ => False⟩
theorem noFct_good (w : World) : noFct.Good w := ⟨fun _ _ _ _ _ => trivial, fun _ _ _ _ h _ _ => h.elim, fun _ => trivial, fun _ _ h => h.elim⟩
/-- ONE WALK IN THE ORDER OF THE TEXT SERVES EVERY ORDER, also where operations make memory -/
theorem wp_region_new {id : Nat} {Q : Exit → Act → World → Prop} {a : Act} {w : World} {l : List Oper} (n : Nat) (T : Tmp → Option (Value → World → Prop)) (N : Tmp → Bool) (hm : P.follows .mixedOrders = true) (hB : memB .any l.toArray n = true)
    (h : wpM P l.toArray w T N (fun a' F => ∀ w', Below w.heap.size w w' → F.Good w' → wpList P l.toArray Q (l.drop n) a' w') (l.take n) 0 a noFct) : (Code.region id l.toArray true).wp P Q a w := by
  simp only [memB, Bool.and_eq_true, Bool.or_eq_true, decide_eq_true_eq] at hB
  obtain ⟨⟨hsel, hcase⟩, hlex⟩ := hB
  have hn' : n ≤ l.length := by rcases hcase with h | h <;> simp at h <;> omega
  have htl : (l.take n).length = n := by simp; omega
  have hdl : (l.drop n).length = l.toArray.size - n := by simp
  have inv0 : HeadInv .any l.toArray n (Array.replicate l.toArray.size false) :=
    ⟨by simp, fun j oj _ hl => (by rw [getD_replicate_false] at hl; cases hl), fun t _ ht => getD_in (by simpa using ht) (getD_replicate_false _ _)⟩
  have hwait : ∀ listed, HeadInv .any l.toArray n listed → ∀ i, i < n → listed.getD i true = false → ∀ t, n ≤ t → t ∉ Region.ready .any l.toArray listed := by
    intro listed inv i hin hun t ht
    rcases hcase with hsz | ⟨⟨hn, hs⟩, hc⟩
    · intro hr
      obtain ⟨_, ot, hot, _⟩ := mem_ready.1 hr
      have := (Array.getElem?_eq_some_iff.1 hot).1
      omega
    · exact tail_waits hs hc hn inv _ i rfl hin hun t ht
  have hcls : Cls w { w with drawn := w.drawn + 1 } := ⟨⟨w.drawn + 1, #[]⟩, by rw [grow_empty]; rfl⟩
  have hc0 : Cons w noFct := ⟨_, hcls, noFct_good _⟩
  have H := wpAnyM_lex (md := .any) (g := l.toArray.size - n) hsel hwait (l.take n) 0 _ a noFct (fun j hj => by
    have hj' : j < n := by rw [htl] at hj; exact hj
    simp [hj']) (by simpa using htl) inv0 (by rw [htl]; exact hlex) hc0 h
  refine wp_region_any hm ?_
  have := wpAny_of_headM (Q' := Q) (g := l.toArray.size - n) (fun listed a' F' w' hw' hF' hL => by
    have := wpAny_of_seq (md := .any) (Q' := Q) (l.drop n) n listed a' w' (fun j => by simp [List.getElem?_drop]) (by rw [hdl]; exact hL.1) (hL.2 w' hw'.below hF')
    rwa [hdl] at this) _ _ _ _ _ hcls (noFct_good _) H
  rw [htl, show n + (l.toArray.size - n) = l.toArray.size by omega] at this
  exact this
theorem wpM_mono {Q Q' : Act → Fct → Prop} (h : ∀ a F, Q a F → Q' a F) : ∀ (l : List Oper) (k : Nat) (a : Act) (F : Fct), wpM P ops w0 T N Q l k a F → wpM P ops w0 T N Q' l k a F
  | [], _, a, F, hh => h a F hh
  | _ :: l, k, _, _, hh => opM_mono (fun a F h1 => wpM_mono h l (k + 1) a F h1) hh
/-- .. where nothing is asked of which block is which -/
theorem wp_region_mem {id : Nat} {Q : Exit → Act → World → Prop} {a : Act} {w : World} {l : List Oper} (n : Nat) (T : Tmp → Option (Value → World → Prop)) (hm : P.follows .mixedOrders = true) (hB : memB .any l.toArray n = true)
    (h : wpM P l.toArray w T (fun _ => false) (fun a' F => ∀ w', Below w.heap.size w w' → (∀ m, F m w') → wpList P l.toArray Q (l.drop n) a' w') (l.take n) 0 a noFct) : (Code.region id l.toArray true).wp P Q a w :=
  wp_region_new n T (fun _ => false) hm hB (wpM_mono (fun _ _ h1 w' hb hF => h1 w' hb hF.2.2.1) _ _ _ _ h)
theorem looks_at {F : Fct} {o : Oper} {w : World} {k : Nat} {d : Tmp} (h : looks ops F o w) (hk : (ops[k]?).bind (·.dst) = some d) (hd : (o.looksAt ops).contains d = true) : F k w := by
  cases ho : ops[k]? with
  | none => rw [ho] at hk; cases hk
  | some ok => rw [ho] at hk; exact h k ok d ho hk (by simpa using hd)
theorem wpM_nil {Q : Act → Fct → Prop} {k : Nat} {a : Act} {F : Fct} (h : Q a F) : wpM P ops w0 T N Q [] k a F := h
theorem wpM_skip {Q : Act → Fct → Prop} {o : Oper} {rest : List Oper} {k : Nat} {a : Act} {F : Fct} (hw : Region.wanted o (yielded ops a.tmps) = false) (h : wpM P ops w0 T N Q rest (k + 1) (a.put o.dst undef) F) : wpM P ops w0 T N Q (o :: rest) k a F := by
  show opM P ops w0 T N o k _ a F
  unfold opM
  rw [if_neg (by rw [hw]; exact Bool.false_ne_true)]
  exact h
theorem wpM_calm {Q : Act → Fct → Prop} {o : Oper} {rest : List Oper} {k : Nat} {a : Act} {F : Fct} (hw : Region.wanted o (yielded ops a.tmps) = true) (ht : o.dst.bind T = none) (hc : calm o = true)
    (h : ∀ K : Act → Prop, (∀ a, wpM P ops w0 T N Q rest (k + 1) a F → K a) → o.quiet P a (fun w' => ∃ p : Regrown, w' = grow (redrawn w0 p.d) p.os) K) : wpM P ops w0 T N Q (o :: rest) k a F := by
  show opM P ops w0 T N o k _ a F
  unfold opM
  rw [if_pos hw]
  simp only [ht]
  obtain ⟨v, h1, h2⟩ := h (fun a => wpM P ops w0 T N Q rest (k + 1) a F) (fun _ h => h)
  exact ⟨hc, v, h1, h2⟩
theorem variesUpon_mono {w : World} {t t' : Value → World → Prop} (h : ∀ v w', t v w' → t' v w') : ∀ {r : Result Next}, variesUpon P w t r → variesUpon P w t' r
  | .ok (.value _) _, hh => ⟨hh.1, h _ _ hh.2⟩
  | .ok (.enter _ _) _, hh => ⟨hh.1, hh.2.mono fun _ _ ⟨v, he, hb, ht⟩ => ⟨v, he, hb, h _ _ ht⟩⟩
  | .ok .skip _, hh => hh.elim
  | .halt _ _, hh => hh.elim
theorem wpM_news {Q : Act → Fct → Prop} {o : Oper} {rest : List Oper} {k : Nat} {a : Act} {F : Fct} (t : Value → World → Prop) (nu : Bool) (hw : Region.wanted o (yielded ops a.tmps) = true) (ht : o.dst.bind T = some t) (hn : o.dst.any N = nu)
    (hrun : ∀ w, Below w0.heap.size w0 w → looks ops F o w → variesUpon P w (fresh nu w t) ((execOp a.eval o).run P w))
    (h : ∀ v, (∃ w, t v w) → ∀ a', a.put o.dst v = a' → wpM P ops w0 T N Q rest (k + 1) a' (F.put k (t v) (newB nu v))) : wpM P ops w0 T N Q (o :: rest) k a F := by
  show opM P ops w0 T N o k _ a F
  unfold opM
  rw [if_pos hw]
  simp only [ht, hn]
  exact ⟨fun w hw hl => hrun w hw.below hl, fun v hv => h v hv.fact _ rfl⟩
theorem wpM_makes {Q : Act → Fct → Prop} {o : Oper} {rest : List Oper} {k : Nat} {a : Act} {F : Fct} (t : Value → World → Prop) (hw : Region.wanted o (yielded ops a.tmps) = true) (ht : o.dst.bind T = some t)
    (hrun : ∀ w, Below w0.heap.size w0 w → looks ops F o w → variesUpon P w t ((execOp a.eval o).run P w))
    (h : ∀ v, (∃ w, t v w) → ∀ a', a.put o.dst v = a' → wpM P ops w0 T N Q rest (k + 1) a' (F.put k (t v) none)) (hn : o.dst.any N = false := by rfl) : wpM P ops w0 T N Q (o :: rest) k a F :=
  wpM_news t false hw ht hn (fun w h1 h2 => variesUpon_mono (fun _ _ h3 => ⟨h3, fun e => (by cases e)⟩) (hrun w h1 h2)) h
/-- new memory, of which it is said that it is new: an allocation -/
theorem wpM_alloc {Q : Act → Fct → Prop} {o : Oper} {rest : List Oper} {k : Nat} {a : Act} {F : Fct} (t : Value → World → Prop) (ob : Obj) (hw : Region.wanted o (yielded ops a.tmps) = true) (ht : o.dst.bind T = some t) (hn : o.dst.any N = true)
    (hrun : ∀ w, (execOp a.eval o).run P w = .ok (.value (.pointer (some ⟨w.heap.size, 0, none⟩))) (w.alloc ob)) (htv : ∀ w, Below w0.heap.size w0 w → t (.pointer (some ⟨w.heap.size, 0, none⟩)) (w.alloc ob))
    (h : ∀ b, ∀ a', a.put o.dst (.pointer (some ⟨b, 0, none⟩)) = a' → wpM P ops w0 T N Q rest (k + 1) a' (F.put k (t (.pointer (some ⟨b, 0, none⟩))) (some b)))
    (hp : ∀ v, (∃ w, t v w) → ∃ b, v = .pointer (some ⟨b, 0, none⟩)) : wpM P ops w0 T N Q (o :: rest) k a F :=
  wpM_news t true hw ht hn (fun w h1 _ => by
    rw [hrun w]
    exact ⟨(Below.refl _ _).alloc (Nat.le_refl _) _, htv w h1, fun _ => ⟨w.heap.size, rfl, Nat.le_refl _, by simp⟩⟩) fun v hv a' ha' => by
      obtain ⟨b, rfl⟩ := hp v hv
      exact h b a' ha'
/-- one value, whatever the world -/
def Is (u : Value) (v : Value) (_ : World) : Prop := v = u
theorem run_call {o : Oper} {a : Act} {f : FuncId} {fn : Func} {args : List Operand} {tys : Array TypeId} {vals : List Value} (hop : o.op = .call ⟨.value (.func f), args.toArray, tys⟩) (hfn : P.funcs[f]? = some fn)
    (hn : (fn.name == "runtime.NumGoroutine") = false) (hb : fn.body.isNone = false) (hv : args.map a.eval = vals) (w : World) : (execOp a.eval o).run P w = .ok (.enter f vals.toArray) w := by
  have hv2 : Array.map (fun x => a.eval x) args.toArray = vals.toArray := by rw [← hv]; simp
  unfold execOp
  rw [hop]
  simp only [resolve, Deferred.ofValue, invoke, callFunc, Act.eval, Sem.run_bind, Sem.run_pure, Result.andThen, hv2, Array.empty_append, Array.append_empty, run_program, hfn, hn, hb, if_false, Bool.false_eq_true]
/-- a call by its contract: one value, whatever the world -/
theorem wpM_exact {Q : Act → Fct → Prop} {o : Oper} {rest : List Oper} {k : Nat} {a : Act} {F : Fct} {f : FuncId} {fn : Func} {args : List Operand} {tys : Array TypeId} {vals : List Value} {u : Value}
    (hw : Region.wanted o (yielded ops a.tmps) = true) (ht : o.dst.bind T = some (Is u)) (hop : o.op = .call ⟨.value (.func f), args.toArray, tys⟩) (hfn : P.funcs[f]? = some fn)
    (hn : (fn.name == "runtime.NumGoroutine") = false) (hb : fn.body.isNone = false)
    (hc : ∀ w, Below w0.heap.size w0 w → looks ops F o w → Calls P f vals.toArray w fun e w' => e = .returned u ∧ Below w.heap.size w w') (hv : args.map a.eval = vals)
    {a' : Act} (ha : a.put o.dst u = a') (h : wpM P ops w0 T N Q rest (k + 1) a' (F.put k (Is u u) none)) (hnn : o.dst.any N = false := by rfl) : wpM P ops w0 T N Q (o :: rest) k a F :=
  wpM_makes (Is u) hw ht (fun w hw hl => by
    rw [run_call hop hfn hn hb hv w]
    exact ⟨rfl, (hc w hw hl).mono fun e w' ⟨he, hb⟩ => ⟨u, he, hb, rfl⟩⟩) (fun v ⟨_, hv⟩ a'' ha'' => by
      obtain rfl : v = u := hv
      rw [← ha''] 
      rw [ha]
      exact h) hnn
/-- a call by its contract: what it yields has the property -/
theorem wpM_call {Q : Act → Fct → Prop} {o : Oper} {rest : List Oper} {k : Nat} {a : Act} {F : Fct} {f : FuncId} {fn : Func} {args : List Operand} {tys : Array TypeId} {vals : List Value} (t : Value → World → Prop)
    (hw : Region.wanted o (yielded ops a.tmps) = true) (ht : o.dst.bind T = some t) (hop : o.op = .call ⟨.value (.func f), args.toArray, tys⟩) (hfn : P.funcs[f]? = some fn)
    (hn : (fn.name == "runtime.NumGoroutine") = false) (hb : fn.body.isNone = false)
    (hc : ∀ w, Below w0.heap.size w0 w → looks ops F o w → Calls P f vals.toArray w fun e w' => ∃ v, e = .returned v ∧ Below w.heap.size w w' ∧ t v w') (hv : args.map a.eval = vals)
    (h : ∀ v, (∃ w, t v w) → ∀ a', a.put o.dst v = a' → wpM P ops w0 T N Q rest (k + 1) a' (F.put k (t v) none)) (hnn : o.dst.any N = false := by rfl) : wpM P ops w0 T N Q (o :: rest) k a F :=
  wpM_makes t hw ht (fun w hw hl => by
    rw [run_call hop hfn hn hb hv w]
    exact ⟨rfl, hc w hw hl⟩) h hnn
end
end Go.Proofs.YtmlmanlcomfhbaaGreatDoor.Reg
namespace Go.Proofs.YtmlmanlcomfhbaaGreatDoor.Kit
open Go.RowKit Reg

theorem below1 (w : World) (a : Obj) : Below w.heap.size w (w.alloc a) := (Below.refl _ _).alloc (Nat.le_refl _) a
theorem below2 (w : World) (a b : Obj) : Below w.heap.size w ((w.alloc a).alloc b) := (below1 w a).alloc (by simp) b
theorem below3 (w : World) (a b c : Obj) : Below w.heap.size w (((w.alloc a).alloc b).alloc c) := (below2 w a b).alloc (by simp; omega) c
theorem below4 (w : World) (a b c d : Obj) : Below w.heap.size w ((((w.alloc a).alloc b).alloc c).alloc d) := (below3 w a b c).alloc (by simp; omega) d
theorem drew_below {w w' : World} {n : Nat} (h : w' = w.drewN n) : Below w.heap.size w w' := by subst h; exact ⟨rfl, rfl, rfl, Nat.le_refl _, fun _ _ => rfl⟩
/-- one call behind another -/
theorem on {w0 w w' : World} (h : Below w0.heap.size w0 w) (hb : Below w.heap.size w w') : Below w0.heap.size w0 w' := h.trans (hb.mono h.size)
theorem on_alloc {w0 w : World} (h : Below w0.heap.size w0 w) (o : Obj) : Below w0.heap.size w0 (w.alloc o) := h.alloc h.size o
/-- a cell stays behind a call, and behind new memory -/
theorem kept {w w' : World} (hb : Below w.heap.size w w') {p : Addr} {v : Value} (h : w.cell? p = some v) : w'.cell? p = some v := (hb.cell (block_lt_of_cell h)).trans h
theorem kept_alloc {w : World} (o : Obj) {p : Addr} {v : Value} (h : w.cell? p = some v) : (w.alloc o).cell? p = some v := (World.cell?_alloc_lt w o p (block_lt_of_cell h)).trans h
/-- memory of these cells, that may be written -/
def CellsAt (w : World) (b : Nat) (cs : List Value) : Prop := b < w.heap.size ∧ ∀ i x, cs[i]? = some x → w.cell? ⟨b, i, none⟩ = some x ∧ w.frozen? ⟨b, i, none⟩ = false
theorem CellsAt.new (w : World) (cs : List Value) (ty : TypeId) : CellsAt (w.alloc (.cells cs.toArray ty)) w.heap.size cs := by
  refine ⟨by simp, fun i x hx => ⟨?_, World.frozen?_alloc_at _ _ _ _ rfl⟩⟩
  rw [World.cell?_alloc_at _ _ _ _ rfl]
  simpa using hx
theorem CellsAt.on {w w' : World} {b : Nat} {cs : List Value} (h : CellsAt w b cs) (hb : Below w.heap.size w w') : CellsAt w' b cs :=
  ⟨Nat.lt_of_lt_of_le h.1 hb.size, fun i x hx => by rw [hb.cell (p := ⟨b, i, none⟩) h.1, hb.frozen (p := ⟨b, i, none⟩) h.1]; exact h.2 i x hx⟩
theorem CellsAt.on_alloc {w : World} {b : Nat} {cs : List Value} (h : CellsAt w b cs) (o : Obj) : CellsAt (w.alloc o) b cs := h.on (below1 w o)
theorem CellsAt.one {w : World} {b : Nat} {x : Value} (h : CellsAt w b [x]) : w.cell? ⟨b, 0, none⟩ = some x ∧ w.frozen? ⟨b, 0, none⟩ = false := h.2 0 x rfl
theorem CellsAt.two {w : World} {b : Nat} {x y : Value} (h : CellsAt w b [x, y]) : w.cell? ⟨b, 0, none⟩ = some x ∧ w.cell? ⟨b, 1, none⟩ = some y ∧ w.frozen? ⟨b, 0, none⟩ = false ∧ w.frozen? ⟨b, 1, none⟩ = false :=
  ⟨(h.2 0 x rfl).1, (h.2 1 y rfl).1, (h.2 0 x rfl).2, (h.2 1 y rfl).2⟩
theorem CellsAt.three {w : World} {b : Nat} {x y z : Value} (h : CellsAt w b [x, y, z]) : w.cell? ⟨b, 0, none⟩ = some x ∧ w.cell? ⟨b, 1, none⟩ = some y ∧ w.cell? ⟨b, 2, none⟩ = some z ∧
    w.frozen? ⟨b, 0, none⟩ = false ∧ w.frozen? ⟨b, 1, none⟩ = false ∧ w.frozen? ⟨b, 2, none⟩ = false :=
  ⟨(h.2 0 x rfl).1, (h.2 1 y rfl).1, (h.2 2 z rfl).1, (h.2 0 x rfl).2, (h.2 1 y rfl).2, (h.2 2 z rfl).2⟩
/-- all cells written anew -/
theorem two_set {w : World} {b : Nat} {x y u v : Value} (c0 : w.cell? ⟨b, 0, none⟩ = some x) (c1 : w.cell? ⟨b, 1, none⟩ = some y) :
    ((w.setCell ⟨b, 0, none⟩ u).setCell ⟨b, 1, none⟩ v).cell? ⟨b, 0, none⟩ = some u ∧ ((w.setCell ⟨b, 0, none⟩ u).setCell ⟨b, 1, none⟩ v).cell? ⟨b, 1, none⟩ = some v := by
  have h0 : (w.setCell ⟨b, 0, none⟩ u).cell? ⟨b, 0, none⟩ = some u := by simp [go_sem, c0]
  have h1 : (w.setCell ⟨b, 0, none⟩ u).cell? ⟨b, 1, none⟩ = some y := by simp [go_sem, c1]
  exact ⟨by simp [go_sem, h0], by simp [go_sem, h1]⟩
theorem three_set {w : World} {b : Nat} {x y z u v r : Value} (c0 : w.cell? ⟨b, 0, none⟩ = some x) (c1 : w.cell? ⟨b, 1, none⟩ = some y) (c2 : w.cell? ⟨b, 2, none⟩ = some z) :
    (((w.setCell ⟨b, 0, none⟩ u).setCell ⟨b, 1, none⟩ v).setCell ⟨b, 2, none⟩ r).cell? ⟨b, 0, none⟩ = some u ∧ (((w.setCell ⟨b, 0, none⟩ u).setCell ⟨b, 1, none⟩ v).setCell ⟨b, 2, none⟩ r).cell? ⟨b, 1, none⟩ = some v ∧
      (((w.setCell ⟨b, 0, none⟩ u).setCell ⟨b, 1, none⟩ v).setCell ⟨b, 2, none⟩ r).cell? ⟨b, 2, none⟩ = some r := by
  have h0 : (w.setCell ⟨b, 0, none⟩ u).cell? ⟨b, 0, none⟩ = some u := by simp [go_sem, c0]
  have h1 : (w.setCell ⟨b, 0, none⟩ u).cell? ⟨b, 1, none⟩ = some y := by simp [go_sem, c1]
  have h2 : (w.setCell ⟨b, 0, none⟩ u).cell? ⟨b, 2, none⟩ = some z := by simp [go_sem, c2]
  have h3 : ((w.setCell ⟨b, 0, none⟩ u).setCell ⟨b, 1, none⟩ v).cell? ⟨b, 0, none⟩ = some u := by simp [go_sem, h0]
  have h4 : ((w.setCell ⟨b, 0, none⟩ u).setCell ⟨b, 1, none⟩ v).cell? ⟨b, 1, none⟩ = some v := by simp [go_sem, h1]
  have h5 : ((w.setCell ⟨b, 0, none⟩ u).setCell ⟨b, 1, none⟩ v).cell? ⟨b, 2, none⟩ = some z := by simp [go_sem, h2]
  exact ⟨by simp [go_sem, h3], by simp [go_sem, h4], by simp [go_sem, h5]⟩
/-- the result's own memory, made as the call begins: behind what came after it, and behind its last store -/
theorem slot {w w' : World} {cs : List Value} {ty : TypeId} (hb : Below (w.alloc (.cells cs.toArray ty)).heap.size (w.alloc (.cells cs.toArray ty)) w') : CellsAt w' w.heap.size cs ∧ Below w.heap.size w w' :=
  ⟨(CellsAt.new w cs ty).on hb, on (below1 w _) hb⟩
theorem set1 {w w' : World} (hb : Below w.heap.size w w') {b : Nat} (hB : w.heap.size ≤ b) (u : Value) : Below w.heap.size w (w'.setCell ⟨b, 0, none⟩ u) := hb.setCell (p := ⟨b, 0, none⟩) hB u
theorem set2 {w w' : World} (hb : Below w.heap.size w w') {b : Nat} (hB : w.heap.size ≤ b) (u v : Value) : Below w.heap.size w ((w'.setCell ⟨b, 0, none⟩ u).setCell ⟨b, 1, none⟩ v) :=
  (set1 hb hB u).setCell (p := ⟨b, 1, none⟩) hB v
theorem set3 {w w' : World} (hb : Below w.heap.size w w') {b : Nat} (hB : w.heap.size ≤ b) (u v r : Value) : Below w.heap.size w (((w'.setCell ⟨b, 0, none⟩ u).setCell ⟨b, 1, none⟩ v).setCell ⟨b, 2, none⟩ r) :=
  (set2 hb hB u v).setCell (p := ⟨b, 2, none⟩) hB r
/-- what an operation of a region yields: new memory of these cells -/
def NewCells (B : Nat) (cs : List Value) (v : Value) (w : World) : Prop := ∃ b, v = .pointer (some ⟨b, 0, none⟩) ∧ B ≤ b ∧ CellsAt w b cs
theorem NewCells.mk (w : World) {B : Nat} (cs : List Value) (ty : TypeId) (hB : B ≤ w.heap.size) : Below w.heap.size w (w.alloc (.cells cs.toArray ty)) ∧ NewCells B cs (.pointer (some ⟨w.heap.size, 0, none⟩)) (w.alloc (.cells cs.toArray ty)) :=
  ⟨below1 _ _, w.heap.size, rfl, hB, CellsAt.new _ _ _⟩
theorem NewCells.up {B : Nat} {cs : List Value} {v : Value} {w : World} (h : Up (NewCells B cs v) w) : NewCells B cs v w := by
  obtain ⟨w1, ⟨b, hv, hB, hc⟩, hb⟩ := h
  exact ⟨b, hv, hB, hc.on hb⟩
/-- .. and a new slice of them -/
def NewSlice (cs : List Value) (v : Value) (w : World) : Prop := ∃ b, v = .slice (some ⟨b, 0, none⟩) cs.length cs.length ∧ CellsAt w b cs
theorem NewSlice.up {cs : List Value} {v : Value} {w : World} (h : Up (NewSlice cs v) w) : NewSlice cs v w := by
  obtain ⟨w1, ⟨b, hv, hc⟩, hb⟩ := h
  exact ⟨b, hv, hc.on hb⟩
theorem ret_bool {a b : Bool} (h : a = b) : Ending.returned (.bool a) = .returned (.bool b) := by rw [h]
theorem ret_i64 {a b : Int} (h : a = b) : Ending.returned (.int .i64 a) = .returned (.int .i64 b) := by rw [h]
theorem ret_u64 {a b : Int} (h : a = b) : Ending.returned (.int .u64 a) = .returned (.int .u64 b) := by rw [h]
theorem ret_str {a b : List UInt8} (h : a = b) : Ending.returned (.string ⟨a.toArray⟩) = .returned (.string ⟨b.toArray⟩) := by rw [h]
theorem cat (a b : List UInt8) : (⟨a.toArray⟩ : ByteArray) ++ ⟨b.toArray⟩ = ⟨(a ++ b).toArray⟩ := by
  apply ByteArray.ext
  simp
end Go.Proofs.YtmlmanlcomfhbaaGreatDoor.Kit
namespace Go.Proofs.YtmlmanlcomfhbaaGreatDoor.Kit
open Go.RowKit Reg

theorem CellsAt.four {w : World} {b : Nat} {x y z u : Value} (h : CellsAt w b [x, y, z, u]) : w.cell? ⟨b, 0, none⟩ = some x ∧ w.cell? ⟨b, 1, none⟩ = some y ∧ w.cell? ⟨b, 2, none⟩ = some z ∧ w.cell? ⟨b, 3, none⟩ = some u ∧
    w.frozen? ⟨b, 0, none⟩ = false ∧ w.frozen? ⟨b, 1, none⟩ = false ∧ w.frozen? ⟨b, 2, none⟩ = false ∧ w.frozen? ⟨b, 3, none⟩ = false :=
  ⟨(h.2 0 x rfl).1, (h.2 1 y rfl).1, (h.2 2 z rfl).1, (h.2 3 u rfl).1, (h.2 0 x rfl).2, (h.2 1 y rfl).2, (h.2 2 z rfl).2, (h.2 3 u rfl).2⟩
theorem CellsAt.five {w : World} {b : Nat} {x y z u v : Value} (h : CellsAt w b [x, y, z, u, v]) : w.cell? ⟨b, 0, none⟩ = some x ∧ w.cell? ⟨b, 1, none⟩ = some y ∧ w.cell? ⟨b, 2, none⟩ = some z ∧ w.cell? ⟨b, 3, none⟩ = some u ∧ w.cell? ⟨b, 4, none⟩ = some v ∧
    w.frozen? ⟨b, 0, none⟩ = false ∧ w.frozen? ⟨b, 1, none⟩ = false ∧ w.frozen? ⟨b, 2, none⟩ = false ∧ w.frozen? ⟨b, 3, none⟩ = false ∧ w.frozen? ⟨b, 4, none⟩ = false :=
  ⟨(h.2 0 x rfl).1, (h.2 1 y rfl).1, (h.2 2 z rfl).1, (h.2 3 u rfl).1, (h.2 4 v rfl).1, (h.2 0 x rfl).2, (h.2 1 y rfl).2, (h.2 2 z rfl).2, (h.2 3 u rfl).2, (h.2 4 v rfl).2⟩
/-- the worlds behind stores into all cells of a block -/
abbrev put4 (w : World) (b : Nat) (x y z u : Value) : World := (((w.setCell ⟨b, 0, none⟩ x).setCell ⟨b, 1, none⟩ y).setCell ⟨b, 2, none⟩ z).setCell ⟨b, 3, none⟩ u
abbrev put5 (w : World) (b : Nat) (x y z u v : Value) : World := (put4 w b x y z u).setCell ⟨b, 4, none⟩ v
theorem CellsAt.set {w : World} {b : Nat} {cs : List Value} (h : CellsAt w b cs) {i : Nat} (hi : i < cs.length) (x : Value) : CellsAt (w.setCell ⟨b, i, none⟩ x) b (cs.set i x) := by
  refine ⟨by simpa using h.1, fun j y hj => ?_⟩
  rw [World.frozen?_setCell]
  by_cases hij : i = j
  · subst hij
    rw [List.getElem?_set_self hi] at hj
    simp only [Option.some.injEq] at hj
    subst hj
    obtain ⟨c, f⟩ := h.2 i cs[i] (List.getElem?_eq_getElem hi)
    exact ⟨World.cell?_setCell_same' _ _ _ (by rw [c]; rfl), f⟩
  · rw [List.getElem?_set_ne hij] at hj
    obtain ⟨c, f⟩ := h.2 j y hj
    refine ⟨?_, f⟩
    rw [World.cell?_setCell_other (h := by intro e; simp at e)]
    exact c
theorem CellsAt.put4 {w : World} {b : Nat} {a c d e : Value} (h : CellsAt w b [a, c, d, e]) (x y z u : Value) : CellsAt (put4 w b x y z u) b [x, y, z, u] :=
  (((h.set (i := 0) (by simp) x).set (i := 1) (by simp) y).set (i := 2) (by simp) z).set (i := 3) (by simp) u
theorem CellsAt.put5 {w : World} {b : Nat} {a c d e f : Value} (h : CellsAt w b [a, c, d, e, f]) (x y z u v : Value) : CellsAt (put5 w b x y z u v) b [x, y, z, u, v] :=
  ((((h.set (i := 0) (by simp) x).set (i := 1) (by simp) y).set (i := 2) (by simp) z).set (i := 3) (by simp) u).set (i := 4) (by simp) v
/-- a store into another block -/
theorem CellsAt.far {w : World} {b : Nat} {cs : List Value} (h : CellsAt w b cs) {p : Addr} (hp : p.block ≠ b) (x : Value) : CellsAt (w.setCell p x) b cs := by
  refine ⟨by simpa using h.1, fun i y hi => ?_⟩
  rw [World.cell?_setCell_other (h := by intro e; rw [e] at hp; exact hp rfl), World.frozen?_setCell]
  exact h.2 i y hi
theorem CellsAt.put4_far {w : World} {b : Nat} {cs : List Value} (h : CellsAt w b cs) {c : Nat} (hp : c ≠ b) (x y z u : Value) : CellsAt (Kit.put4 w c x y z u) b cs :=
  (((h.far (p := ⟨c, 0, none⟩) hp x).far (p := ⟨c, 1, none⟩) hp y).far (p := ⟨c, 2, none⟩) hp z).far (p := ⟨c, 3, none⟩) hp u
abbrev put2 (w : World) (b : Nat) (x y : Value) : World := (w.setCell ⟨b, 0, none⟩ x).setCell ⟨b, 1, none⟩ y
theorem CellsAt.put2 {w : World} {b : Nat} {a c : Value} (h : CellsAt w b [a, c]) (x y : Value) : CellsAt (put2 w b x y) b [x, y] := (h.set (i := 0) (by simp) x).set (i := 1) (by simp) y
theorem CellsAt.put2_far {w : World} {b : Nat} {cs : List Value} (h : CellsAt w b cs) {c : Nat} (hp : c ≠ b) (x y : Value) : CellsAt (Kit.put2 w c x y) b cs :=
  (h.far (p := ⟨c, 0, none⟩) hp x).far (p := ⟨c, 1, none⟩) hp y
abbrev put3 (w : World) (b : Nat) (x y z : Value) : World := ((w.setCell ⟨b, 0, none⟩ x).setCell ⟨b, 1, none⟩ y).setCell ⟨b, 2, none⟩ z
theorem CellsAt.put3 {w : World} {b : Nat} {a c d : Value} (h : CellsAt w b [a, c, d]) (x y z : Value) : CellsAt (Kit.put3 w b x y z) b [x, y, z] := ((h.set (i := 0) (by simp) x).set (i := 1) (by simp) y).set (i := 2) (by simp) z
theorem CellsAt.put3_far {w : World} {b : Nat} {cs : List Value} (h : CellsAt w b cs) {c : Nat} (hp : c ≠ b) (x y z : Value) : CellsAt (Kit.put3 w c x y z) b cs :=
  ((h.far (p := ⟨c, 0, none⟩) hp x).far (p := ⟨c, 1, none⟩) hp y).far (p := ⟨c, 2, none⟩) hp z
/-- new memory of a region, by its name -/
theorem NewCells.at {B b : Nat} {cs : List Value} {w : World} (h : Up (NewCells B cs (.pointer (some ⟨b, 0, none⟩))) w) : B ≤ b ∧ CellsAt w b cs := by
  obtain ⟨c, e, h1, h2⟩ := NewCells.up h
  simp only [Value.pointer.injEq, Option.some.injEq, Addr.mk.injEq, and_true] at e
  subst e
  exact ⟨h1, h2⟩
theorem put4_below {w w' : World} (hb : Below w.heap.size w w') {b : Nat} (hB : w.heap.size ≤ b) (x y z u : Value) : Below w.heap.size w (Kit.put4 w' b x y z u) :=
  (set3 hb hB x y z).setCell (p := ⟨b, 3, none⟩) hB u
theorem put5_below {w w' : World} (hb : Below w.heap.size w w') {b : Nat} (hB : w.heap.size ≤ b) (x y z u v : Value) : Below w.heap.size w (Kit.put5 w' b x y z u v) :=
  (put4_below hb hB x y z u).setCell (p := ⟨b, 4, none⟩) hB v
end Go.Proofs.YtmlmanlcomfhbaaGreatDoor.Kit
namespace Go.Proofs.YtmlmanlcomfhbaaGreatDoor.Lab
open Go.Proofs.YtmlmanlcomfhbaaGreatDoor.Cats (U U_or withinB testBit_compl testBit_lt)

def mayL (l : Int) : Bool := decide (0 ≤ l) && decide (l ≤ 15)
def belowL (l1 : Int) (s1 : Nat) (l2 : Int) (s2 : Nat) : Bool := decide (l1 ≤ l2) && withinB s1 s2
def joinI (a b : Int) : Int := if a < b then b else a
theorem joinI_max (a b : Int) : max a b = joinI a b := by unfold joinI; split <;> omega
theorem andNot_iff (a b : Nat) (ha : U a) (hb : U b) : (a &&& b == a) = withinB a b := by
  unfold withinB
  rw [Bool.eq_iff_iff, beq_iff_eq, beq_iff_eq]
  constructor
  · intro h
    apply Nat.eq_of_testBit_eq
    intro i
    rw [Nat.testBit_and, testBit_compl hb, Nat.zero_testBit]
    have h2 : (a &&& b).testBit i = a.testBit i := by rw [h]
    rw [Nat.testBit_and] at h2
    cases h3 : a.testBit i <;> cases h4 : b.testBit i <;> simp [h3, h4] at h2 ⊢
  · intro h
    apply Nat.eq_of_testBit_eq
    intro i
    rw [Nat.testBit_and]
    have h2 : (a &&& (18446744073709551615 - b)).testBit i = false := by rw [h, Nat.zero_testBit]
    rw [Nat.testBit_and, testBit_compl hb] at h2
    cases h3 : a.testBit i
    · rfl
    · have h4 := testBit_lt ha h3
      simp [h3, h4] at h2
      simp [h2]
theorem withinB_iff {a b : Nat} (ha : U a) (hb : U b) : withinB a b = true ↔ ∀ i, a.testBit i = true → b.testBit i = true := by
  rw [← andNot_iff a b ha hb, beq_iff_eq]
  constructor
  · intro h i hi
    have h2 : (a &&& b).testBit i = a.testBit i := by rw [h]
    rw [Nat.testBit_and, hi] at h2
    simpa using h2
  · intro h
    apply Nat.eq_of_testBit_eq
    intro i
    rw [Nat.testBit_and]
    cases hi : a.testBit i
    · rfl
    · rw [h i hi]; rfl
theorem belowL_iff {l1 l2 : Int} {s1 s2 : Nat} (h1 : U s1) (h2 : U s2) : belowL l1 s1 l2 s2 = true ↔ l1 ≤ l2 ∧ ∀ i, s1.testBit i = true → s2.testBit i = true := by
  unfold belowL
  rw [Bool.and_eq_true, decide_eq_true_eq, withinB_iff h1 h2]
theorem below_refl {l : Int} {s : Nat} (h : U s) : belowL l s l s = true := (belowL_iff h h).2 ⟨Int.le_refl _, fun _ h => h⟩
theorem below_trans {l1 l2 l3 : Int} {s1 s2 s3 : Nat} (h1 : U s1) (h2 : U s2) (h3 : U s3) (h : belowL l1 s1 l2 s2 = true) (k : belowL l2 s2 l3 s3 = true) : belowL l1 s1 l3 s3 = true := by
  rw [belowL_iff h1 h2] at h
  rw [belowL_iff h2 h3] at k
  exact (belowL_iff h1 h3).2 ⟨Int.le_trans h.1 k.1, fun i hi => k.2 i (h.2 i hi)⟩
theorem joinI_ge (a b : Int) : a ≤ joinI a b ∧ b ≤ joinI a b := by unfold joinI; split <;> omega
theorem below_join_l {la lb : Int} {sa sb : Nat} (ha : U sa) (hb : U sb) : belowL la sa (joinI la lb) (sa ||| sb) = true :=
  (belowL_iff ha (U_or ha hb)).2 ⟨(joinI_ge la lb).1, fun i h => by rw [Nat.testBit_or, h]; rfl⟩
theorem below_join_r {la lb : Int} {sa sb : Nat} (ha : U sa) (hb : U sb) : belowL lb sb (joinI la lb) (sa ||| sb) = true :=
  (belowL_iff hb (U_or ha hb)).2 ⟨(joinI_ge la lb).2, fun i h => by rw [Nat.testBit_or, h, Bool.or_true]⟩
end Go.Proofs.YtmlmanlcomfhbaaGreatDoor.Lab
namespace Go.Proofs.YtmlmanlcomfhbaaGreatDoor.Addr

/-- a column's letters -/
def letN (c : Nat) : List UInt8 := if c < 26 then [UInt8.ofNat (65 + c)] else [UInt8.ofNat (64 + c / 26), UInt8.ofNat (65 + c % 26)]
def colT (c : Int) : List UInt8 := if c < 0 ∨ 701 < c then [] else letN c.toNat
/-- digits of a number below 1000 -/
def d3 (n : Nat) : List UInt8 :=
  if n < 10 then [UInt8.ofNat (48 + n)] else if n < 100 then [UInt8.ofNat (48 + n / 10), UInt8.ofNat (48 + n % 10)] else [UInt8.ofNat (48 + n / 100), UInt8.ofNat (48 + n / 10 % 10), UInt8.ofNat (48 + n % 10)]
theorem d3_eq {n : Nat} (h : n < 1000) : Lib.decDigits n = d3 n := by
  unfold d3
  by_cases h1 : n < 10
  · rw [Lib.decDigits_one h1, if_pos h1]
  · by_cases h2 : n < 100
    · rw [Lib.decDigits_two h1 h2, if_neg h1, if_pos h2]
    · rw [if_neg h1, if_neg h2, Lib.decDigits, dif_neg h1, Lib.decDigits_two (by omega) (by omega), Nat.div_div_eq_div_mul]
      rfl
/-- a row's number -/
def numN (r : Nat) : List UInt8 := d3 (r + 1)
def mayB (r c : Int) : Bool := decide (0 ≤ r ∧ r ≤ 998 ∧ 0 ≤ c ∧ c ≤ 701)
/-- a cell's name -/
def nameN (r c : Nat) : List UInt8 := letN c ++ numN r
def nameI (r c : Int) : List UInt8 := if mayB r c = true then nameN r.toNat c.toNat else []
theorem mayB_nat {r c : Nat} (h1 : r ≤ 998) (h2 : c ≤ 701) : mayB r c = true := by simp [mayB]; omega
theorem of_mayB {r c : Int} (h : mayB r c = true) : ∃ i j : Nat, r = i ∧ c = j ∧ i ≤ 998 ∧ j ≤ 701 := by
  simp only [mayB, decide_eq_true_eq] at h
  exact ⟨r.toNat, c.toNat, by omega, by omega, by omega, by omega⟩
theorem nameI_nat {r c : Nat} (h1 : r ≤ 998) (h2 : c ≤ 701) : nameI r c = nameN r c := by rw [nameI, if_pos (mayB_nat h1 h2)]; simp
theorem colT_nat {c : Nat} (h : c ≤ 701) : colT c = letN c := by rw [colT, if_neg (by omega)]; simp

theorem let_facts : ∀ c, c < 702 → (∀ b, b ∈ letN c → 65 ≤ b ∧ b ≤ 90) := by decide +kernel
theorem num_facts : ∀ r, r < 999 → (∀ b, b ∈ numN r → 48 ≤ b ∧ b ≤ 57) ∧ numN r ≠ [] := by decide +kernel
theorem let_length (c : Nat) : (letN c).length = if c < 26 then 1 else 2 := by unfold letN; split <;> rfl
theorem let_len1 (c : Nat) : 1 ≤ (letN c).length ∧ (letN c).length ≤ 2 := by rw [let_length]; split <;> omega
theorem num_length (r : Nat) : 1 ≤ (numN r).length ∧ (numN r).length ≤ 3 := by
  unfold numN d3
  repeat' split
  all_goals simp
def colV : List UInt8 → Nat
  | [a] => a.toNat - 65
  | [a, b] => (a.toNat - 64) * 26 + (b.toNat - 65)
  | _ => 0
theorem colV_let : ∀ c, c < 702 → colV (letN c) = c := by decide +kernel
def rowV : List UInt8 → Nat
  | [a] => a.toNat - 49
  | [a, b] => (a.toNat - 48) * 10 + (b.toNat - 48) - 1
  | [a, b, c] => (a.toNat - 48) * 100 + (b.toNat - 48) * 10 + (c.toNat - 48) - 1
  | _ => 0
theorem rowV_num : ∀ r, r < 999 → rowV (numN r) = r := by decide +kernel
theorem let_inj {a b : Nat} (ha : a ≤ 701) (hb : b ≤ 701) (h : letN a = letN b) : a = b := by
  rw [← colV_let a (by omega), ← colV_let b (by omega), h]
theorem num_inj {a b : Nat} (ha : a ≤ 998) (hb : b ≤ 998) (h : numN a = numN b) : a = b := by
  rw [← rowV_num a (by omega), ← rowV_num b (by omega), h]

/-- what a reader of columns has to answer -/
def ColIs (t : List UInt8) (n : Int) (b : Bool) : Prop := (b = true ∧ ∃ k : Nat, k ≤ 701 ∧ n = k ∧ letN k = t) ∨ (b = false ∧ n = 0 ∧ ∀ k : Nat, k ≤ 701 → letN k ≠ t)
theorem ColIs.unique {t : List UInt8} {n m : Int} {b c : Bool} (h : ColIs t n b) (k : ColIs t m c) : n = m ∧ b = c := by
  rcases h with ⟨rfl, i, hi, rfl, e⟩ | ⟨rfl, rfl, h⟩ <;> rcases k with ⟨rfl, j, hj, rfl, f⟩ | ⟨rfl, rfl, k⟩
  · exact ⟨by rw [let_inj hi hj (e.trans f.symm)], rfl⟩
  · exact absurd e (k i hi)
  · exact absurd f (h j hj)
  · exact ⟨rfl, rfl⟩
/-- .. of rows -/
def NumIs (t : List UInt8) (n : Int) (b : Bool) : Prop := (b = true ∧ ∃ k : Nat, k ≤ 998 ∧ n = k ∧ numN k = t) ∨ (b = false ∧ n = 0 ∧ ∀ k : Nat, k ≤ 998 → numN k ≠ t)
theorem NumIs.unique {t : List UInt8} {n m : Int} {b c : Bool} (h : NumIs t n b) (k : NumIs t m c) : n = m ∧ b = c := by
  rcases h with ⟨rfl, i, hi, rfl, e⟩ | ⟨rfl, rfl, h⟩ <;> rcases k with ⟨rfl, j, hj, rfl, f⟩ | ⟨rfl, rfl, k⟩
  · exact ⟨by rw [num_inj hi hj (e.trans f.symm)], rfl⟩
  · exact absurd e (k i hi)
  · exact absurd f (h j hj)
  · exact ⟨rfl, rfl⟩

/-- the ten digits -/
def tens : List UInt8 := [48, 49, 50, 51, 52, 53, 54, 55, 56, 57]
theorem tens_let : ∀ b : Fin 26, tens.contains (UInt8.ofNat (65 + b.val)) = false := by decide +kernel
theorem tens_has {b : UInt8} (h : 48 ≤ b ∧ b ≤ 57) : tens.contains b = true := by
  have h1 := h.1; have h2 := h.2
  rw [UInt8.le_iff_toNat_le] at h1 h2
  have e : b = UInt8.ofNat b.toNat := by simp
  have : b.toNat = 48 ∨ b.toNat = 49 ∨ b.toNat = 50 ∨ b.toNat = 51 ∨ b.toNat = 52 ∨ b.toNat = 53 ∨ b.toNat = 54 ∨ b.toNat = 55 ∨ b.toNat = 56 ∨ b.toNat = 57 := by
    simp at h1 h2; omega
  rw [e]
  rcases this with h | h | h | h | h | h | h | h | h | h <;> rw [h] <;> rfl
theorem tens_not {b : UInt8} (h : 65 ≤ b) : tens.contains b = false := by
  rw [UInt8.le_iff_toNat_le] at h
  have h' : 65 ≤ b.toNat := h
  cases hc : tens.contains b with
  | false => rfl
  | true =>
    exfalso
    simp [tens] at hc
    rcases hc with h | h | h | h | h | h | h | h | h | h <;> subst h <;> simp at h'
/-- where the first of these bytes stands, or that there is none -/
theorem any_cases (cs l : List UInt8) : (Lib.indexAny l cs = -1 ∧ ∀ b ∈ l, cs.contains b = false) ∨ ∃ i : Nat, Lib.indexAny l cs = i ∧ i + 1 ≤ l.length ∧ (∀ b ∈ l.take i, cs.contains b = false) := by
  induction l with
  | nil => exact .inl ⟨rfl, by simp⟩
  | cons x r ih =>
    unfold Lib.indexAny
    cases hc : cs.contains x with
    | true => exact .inr ⟨0, by simp, by simp, by simp⟩
    | false =>
      rcases ih with ⟨h1, h2⟩ | ⟨i, h1, h2, h3⟩
      · refine .inl ⟨by simp [h1], ?_⟩
        intro b hb
        rcases List.mem_cons.1 hb with rfl | hb
        · exact hc
        · exact h2 b hb
      · refine .inr ⟨i + 1, ?_, by simp; omega, ?_⟩
        · rw [h1]
          have : ((i : Int) == -1) = false := by simp
          simp [this]
        · intro b hb
          rw [List.take_succ_cons] at hb
          rcases List.mem_cons.1 hb with rfl | hb
          · exact hc
          · exact h3 b hb
theorem name_index {i j : Nat} (hi : i ≤ 998) (hj : j ≤ 701) : Lib.indexAny (nameN i j) tens = (letN j).length := by
  obtain ⟨hd, hne⟩ := num_facts i (by omega)
  obtain ⟨x, r, hx⟩ : ∃ x r, numN i = x :: r := List.exists_cons_of_ne_nil hne
  refine Lib.indexAny_hit (x := x) (fun k b hk hb => ?_) ?_ (tens_has (hd x (by rw [hx]; simp)))
  · unfold nameN at hb
    rw [List.getElem?_append_left hk] at hb
    exact tens_not (let_facts j (by omega) b (List.mem_of_getElem? hb)).1
  · unfold nameN
    rw [List.getElem?_append_right (Nat.le_refl _), hx]
    simp
/-- cut where the first digit stands a name is its letters and its number -/
theorem name_cut {t : List UInt8} {i j k : Nat} (hi : i ≤ 998) (hj : j ≤ 701) (h : nameN i j = t) (hk : Lib.indexAny t tens = k) : t.take k = letN j ∧ t.drop k = numN i := by
  subst h
  rw [name_index hi hj] at hk
  obtain rfl : (letN j).length = k := by omega
  exact ⟨by simp [nameN], by simp [nameN]⟩
theorem name_inj {a b c d : Nat} (ha : a ≤ 998) (hb : b ≤ 701) (hc : c ≤ 998) (hd : d ≤ 701) (h : nameN a b = nameN c d) : a = c ∧ b = d := by
  obtain ⟨h1, h2⟩ := name_cut ha hb rfl (name_index ha hb)
  obtain ⟨h3, h4⟩ := name_cut hc hd h.symm (name_index ha hb)
  exact ⟨num_inj ha hc (h2.symm.trans h4), let_inj hb hd (h1.symm.trans h3)⟩
/-- what a reader of cells has to answer -/
def CellIs (t : List UInt8) (r c : Int) (b : Bool) : Prop :=
  (b = true ∧ ∃ i j : Nat, i ≤ 998 ∧ j ≤ 701 ∧ r = i ∧ c = j ∧ nameN i j = t) ∨ (b = false ∧ r = 0 ∧ c = 0 ∧ ∀ i j : Nat, i ≤ 998 → j ≤ 701 → nameN i j ≠ t)
theorem CellIs.unique {t : List UInt8} {r c r' c' : Int} {b b' : Bool} (h : CellIs t r c b) (k : CellIs t r' c' b') : r = r' ∧ c = c' ∧ b = b' := by
  rcases h with ⟨rfl, i, j, hi, hj, rfl, rfl, e⟩ | ⟨rfl, rfl, rfl, h⟩ <;> rcases k with ⟨rfl, i', j', hi', hj', rfl, rfl, f⟩ | ⟨rfl, rfl, rfl, k⟩
  · obtain ⟨rfl, rfl⟩ := name_inj hi hj hi' hj' (e.trans f.symm)
    exact ⟨rfl, rfl, rfl⟩
  · exact absurd e (k i j hi hj)
  · exact absurd f (h i' j' hi' hj')
  · exact ⟨rfl, rfl, rfl⟩
theorem CellIs.name {r c : Int} (h : mayB r c = true) : CellIs (nameI r c) r c true := by
  obtain ⟨i, j, rfl, rfl, hi, hj⟩ := of_mayB h
  exact .inl ⟨rfl, i, j, hi, hj, rfl, rfl, (nameI_nat hi hj).symm⟩
theorem CellIs.empty : CellIs [] 0 0 false := .inr ⟨rfl, rfl, rfl, fun i j _ _ e => by
  have := congrArg List.length e
  have h1 := let_len1 j
  simp [nameN] at this
  simp [this.1] at h1⟩
theorem CellIs.back {t : List UInt8} {r c : Int} (h : CellIs t r c true) : mayB r c = true ∧ nameI r c = t := by
  rcases h with ⟨_, i, j, hi, hj, rfl, rfl, e⟩ | ⟨h, _⟩
  · exact ⟨mayB_nat hi hj, by rw [nameI_nat hi hj, e]⟩
  · cases h
/-- a reader that cuts at the first digit -/
theorem CellIs.no_digit {t : List UInt8} (h : Lib.indexAny t tens = -1) : CellIs t 0 0 false := .inr ⟨rfl, rfl, rfl, fun i j hi hj e => by
  subst e
  rw [name_index hi hj] at h
  omega⟩
theorem CellIs.both {t : List UInt8} {k : Nat} {r c : Int} (h1 : ColIs (t.take k) c true) (h2 : NumIs (t.drop k) r true) : CellIs t r c true := by
  rcases h1 with ⟨_, j, hj, rfl, e⟩ | ⟨h, _⟩
  · rcases h2 with ⟨_, i, hi, rfl, f⟩ | ⟨h, _⟩
    · exact .inl ⟨rfl, i, j, hi, hj, rfl, rfl, by rw [nameN, e, f, List.take_append_drop]⟩
    · cases h
  · cases h
theorem CellIs.no_col {t : List UInt8} {k : Nat} {c : Int} (hk : Lib.indexAny t tens = k) (h1 : ColIs (t.take k) c false) : CellIs t 0 0 false := .inr ⟨rfl, rfl, rfl, fun i j hi hj e => by
  rcases h1 with ⟨h, _⟩ | ⟨_, _, h⟩
  · cases h
  · exact h j hj (name_cut hi hj e hk).1.symm⟩
theorem CellIs.no_num {t : List UInt8} {k : Nat} {r : Int} (hk : Lib.indexAny t tens = k) (h1 : NumIs (t.drop k) r false) : CellIs t 0 0 false := .inr ⟨rfl, rfl, rfl, fun i j hi hj e => by
  rcases h1 with ⟨h, _⟩ | ⟨_, _, h⟩
  · cases h
  · exact h i hi (name_cut hi hj e hk).2.symm⟩

/-- a reader that tries cuts behind the first letters: none fits that is shorter than k -/
def NoCut (t : List UInt8) (k : Nat) : Prop := ∀ i j : Nat, i ≤ 998 → j ≤ 701 → nameN i j = t → k ≤ (letN j).length
theorem NoCut.one (t : List UInt8) : NoCut t 1 := fun _ j _ _ _ => (let_len1 j).1
theorem name_take {t : List UInt8} {i j : Nat} (h : nameN i j = t) : t.take (letN j).length = letN j ∧ t.drop (letN j).length = numN i := by
  subst h
  exact ⟨by simp [nameN], by simp [nameN]⟩
theorem NoCut.col {t : List UInt8} {k : Nat} {c : Int} (h : NoCut t k) (h1 : ColIs (t.take k) c false) : NoCut t (k + 1) := fun i j hi hj e => by
  have h2 := h i j hi hj e
  rcases h1 with ⟨h, _⟩ | ⟨_, _, h3⟩
  · cases h
  · rcases Nat.lt_or_ge k (letN j).length with h4 | h4
    · exact h4
    · obtain rfl : k = (letN j).length := by omega
      exact absurd (name_take e).1.symm (h3 j hj)
theorem NoCut.num {t : List UInt8} {k : Nat} {r : Int} (h : NoCut t k) (h1 : NumIs (t.drop k) r false) : NoCut t (k + 1) := fun i j hi hj e => by
  have h2 := h i j hi hj e
  rcases h1 with ⟨h, _⟩ | ⟨_, _, h3⟩
  · cases h
  · rcases Nat.lt_or_ge k (letN j).length with h4 | h4
    · exact h4
    · obtain rfl : k = (letN j).length := by omega
      exact absurd (name_take e).2.symm (h3 i hi)
theorem NoCut.done {t : List UInt8} {k : Nat} (h : NoCut t k) (hk : 2 < k ∨ t.length < k) : CellIs t 0 0 false := .inr ⟨rfl, rfl, rfl, fun i j hi hj e => by
  have h2 := h i j hi hj e
  have h3 := let_len1 j
  have h4 := num_length i
  subst e
  simp only [nameN, List.length_append] at hk
  omega⟩

/-- what a column's reader keeps: the letters up to here are a column's, or there are none yet -/
def ColAt (l : List UInt8) (c : Int) : Prop := (l = [] ∧ c = -1) ∨ ∃ k : Nat, k ≤ 701 ∧ c = k ∧ letN k = l
theorem ColAt.range {l : List UInt8} {c : Int} (h : ColAt l c) : -1 ≤ c ∧ c ≤ 701 := by
  rcases h with ⟨_, rfl⟩ | ⟨k, hk, rfl, _⟩ <;> omega
theorem let_snoc1 : ∀ x, x < 26 → [UInt8.ofNat (65 + x)] = letN x := by decide +kernel
theorem let_snoc2 : ∀ k, k < 26 → ∀ x, x < 26 → letN k ++ [UInt8.ofNat (65 + x)] = letN ((k + 1) * 26 + x) := by decide +kernel
theorem letter_of {x : UInt8} (h1 : 65 ≤ x.toNat) (h2 : x.toNat ≤ 90) : ∃ y, y < 26 ∧ x = UInt8.ofNat (65 + y) ∧ x.toNat = 65 + y :=
  ⟨x.toNat - 65, by omega, by rw [show 65 + (x.toNat - 65) = x.toNat by omega]; simp, by omega⟩
theorem ColAt.next {l : List UInt8} {c : Int} {x : UInt8} (h : ColAt l c) (h1 : 65 ≤ x.toNat) (h2 : x.toNat ≤ 90) (hc : (c + 1) * 26 + ((x.toNat : Int) - 65) ≤ 701) : ColAt (l ++ [x]) ((c + 1) * 26 + ((x.toNat : Int) - 65)) := by
  obtain ⟨y, hy, rfl, hxy⟩ := letter_of h1 h2
  rw [hxy] at hc ⊢
  rcases h with ⟨rfl, rfl⟩ | ⟨k, hk, rfl, rfl⟩
  · exact .inr ⟨y, by omega, by omega, (let_snoc1 y hy).symm⟩
  · refine .inr ⟨(k + 1) * 26 + y, by omega, by push_cast; omega, (let_snoc2 k (by omega) y hy).symm⟩
theorem ColAt.over {l : List UInt8} {c : Int} {x : UInt8} {r : List UInt8} (h : ColAt l c) (h1 : 65 ≤ x.toNat) (h2 : x.toNat ≤ 90) (hc : 701 < (c + 1) * 26 + ((x.toNat : Int) - 65)) : ColIs (l ++ x :: r) 0 false := .inr ⟨rfl, rfl, fun j hj e => by
  rcases h with ⟨rfl, rfl⟩ | ⟨k, hk, rfl, rfl⟩
  · omega
  · have h3 := congrArg List.length e
    simp only [List.length_append, List.length_cons] at h3
    rw [let_length, let_length] at h3
    have : ¬ k < 26 := by omega
    rw [if_neg this] at h3
    split at h3 <;> omega⟩
theorem ColAt.odd {l : List UInt8} {x : UInt8} {r : List UInt8} (h : x.toNat < 65 ∨ 90 < x.toNat) : ColIs (l ++ x :: r) 0 false := .inr ⟨rfl, rfl, fun j hj e => by
  have h3 := let_facts j (by omega) x (by rw [e]; simp)
  simp only [UInt8.le_iff_toNat_le] at h3
  have h4 : 65 ≤ x.toNat := h3.1
  have h5 : x.toNat ≤ 90 := h3.2
  omega⟩
theorem ColAt.done {l : List UInt8} {c : Int} (h : ColAt l c) (hl : l ≠ []) : ColIs l c true := by
  rcases h with ⟨rfl, _⟩ | ⟨k, hk, rfl, e⟩
  · exact absurd rfl hl
  · exact .inl ⟨rfl, k, hk, rfl, e⟩
theorem ColIs.empty : ColIs [] 0 false := .inr ⟨rfl, rfl, fun k _ e => by
  have := let_len1 k
  rw [e] at this
  simp at this⟩
/-- readers that try one after the other -/
def NoCol (t : List UInt8) (n : Nat) : Prop := ∀ k, k < n → letN k ≠ t
def NoNum (t : List UInt8) (n : Nat) : Prop := ∀ k, k < n → numN k ≠ t
theorem NoCol.next {t : List UInt8} {n : Nat} (h : NoCol t n) (hn : letN n ≠ t) : NoCol t (n + 1) := fun k hk => by
  rcases Nat.lt_or_ge k n with h1 | h1
  · exact h k h1
  · obtain rfl : k = n := by omega
    exact hn
theorem NoNum.next {t : List UInt8} {n : Nat} (h : NoNum t n) (hn : numN n ≠ t) : NoNum t (n + 1) := fun k hk => by
  rcases Nat.lt_or_ge k n with h1 | h1
  · exact h k h1
  · obtain rfl : k = n := by omega
    exact hn
theorem NoCol.done {t : List UInt8} (h : NoCol t 702) : ColIs t 0 false := .inr ⟨rfl, rfl, fun k hk => h k (by omega)⟩
theorem NoNum.done {t : List UInt8} (h : NoNum t 999) : NumIs t 0 false := .inr ⟨rfl, rfl, fun k hk => h k (by omega)⟩
theorem ColIs.here {t : List UInt8} {n : Nat} (hn : n ≤ 701) (h : letN n = t) : ColIs t n true := .inl ⟨rfl, n, hn, rfl, h⟩
theorem NumIs.here {t : List UInt8} {n : Nat} (hn : n ≤ 998) (h : numN n = t) : NumIs t n true := .inl ⟨rfl, n, hn, rfl, h⟩
end Go.Proofs.YtmlmanlcomfhbaaGreatDoor.Addr
namespace Go.Proofs.YtmlmanlcomfhbaaGreatDoor.Span
open Go.Proofs.YtmlmanlcomfhbaaGreatDoor.Addr

/-- a span may be -/
def mayS (a b c d : Int) : Bool := mayB a b && mayB c d
theorem of_mayS {a b c d : Int} (h : mayS a b c d = true) : (0 ≤ a ∧ a ≤ 998) ∧ (0 ≤ b ∧ b ≤ 701) ∧ (0 ≤ c ∧ c ≤ 998) ∧ 0 ≤ d ∧ d ≤ 701 := by
  simp only [mayS, mayB, Bool.and_eq_true, decide_eq_true_eq] at h
  omega
theorem mayS_of {a b c d : Int} (h : (0 ≤ a ∧ a ≤ 998) ∧ (0 ≤ b ∧ b ≤ 701) ∧ (0 ≤ c ∧ c ≤ 998) ∧ 0 ≤ d ∧ d ≤ 701) : mayS a b c d = true := by
  simp only [mayS, mayB, Bool.and_eq_true, decide_eq_true_eq]
  omega
theorem mayS_left {a b c d : Int} (h : mayS a b c d = true) : mayB a b = true := (Bool.and_eq_true _ _ ▸ h).1
theorem mayS_right {a b c d : Int} (h : mayS a b c d = true) : mayB c d = true := (Bool.and_eq_true _ _ ▸ h).2
/-- the straight one with the same cells -/
def lo (m : Bool) (a c : Int) : Int := if m = true then (if a ≤ c then a else c) else 0
def hi (m : Bool) (a c : Int) : Int := if m = true then (if a ≤ c then c else a) else 0
/-- how many rows, or columns -/
def ext (m : Bool) (a c : Int) : Int := if m = true then hi m a c - lo m a c + 1 else 0
theorem lo_false (a c : Int) : lo false a c = 0 := rfl
theorem hi_false (a c : Int) : hi false a c = 0 := rfl
theorem ext_false (a c : Int) : ext false a c = 0 := rfl
theorem lo_range {a b c d : Int} (h : mayS a b c d = true) : (0 ≤ lo true a c ∧ lo true a c ≤ 998) ∧ (0 ≤ lo true b d ∧ lo true b d ≤ 701) ∧ (0 ≤ hi true a c ∧ hi true a c ≤ 998) ∧ (0 ≤ hi true b d ∧ hi true b d ≤ 701) ∧ lo true a c ≤ hi true a c ∧ lo true b d ≤ hi true b d := by
  obtain ⟨h1, h2, h3, h4⟩ := of_mayS h
  simp only [lo, hi, if_true]
  refine ⟨?_, ?_, ?_, ?_, ?_, ?_⟩ <;> (repeat' split) <;> omega
/-- is a number between two others, whichever way they stand? -/
def btwB (n a b : Int) : Bool := (decide (a ≤ n) && decide (n ≤ b)) || (decide (b ≤ n) && decide (n ≤ a))
theorem btwB_iff {n a c : Int} : btwB n a c = true ↔ lo true a c ≤ n ∧ n ≤ hi true a c := by
  simp only [btwB, Bool.or_eq_true, Bool.and_eq_true, decide_eq_true_eq, lo, hi, if_true]
  split <;> omega
/-- is a cell in a span? -/
def hasB (a b c d x y : Int) : Bool := mayS a b c d && btwB x a c && btwB y b d
theorem hasB_iff {a b c d x y : Int} : hasB a b c d x y = true ↔ mayS a b c d = true ∧ (lo true a c ≤ x ∧ x ≤ hi true a c) ∧ lo true b d ≤ y ∧ y ≤ hi true b d := by
  simp only [hasB, Bool.and_eq_true, btwB_iff]
  exact ⟨fun ⟨⟨h, i⟩, j⟩ => ⟨h, i, j⟩, fun ⟨h, i, j⟩ => ⟨⟨h, i⟩, j⟩⟩
/-- do two spans meet, and where? -/
def meetB (a b c d e f g h : Int) : Bool := mayS a b c d && mayS e f g h && decide (lo true a c ≤ hi true e g) && decide (lo true e g ≤ hi true a c) && decide (lo true b d ≤ hi true f h) && decide (lo true f h ≤ hi true b d)
def mlo (m : Bool) (a c e g : Int) : Int := if m = true then (if lo true a c ≤ lo true e g then lo true e g else lo true a c) else 0
def mhi (m : Bool) (a c e g : Int) : Int := if m = true then (if hi true a c ≤ hi true e g then hi true a c else hi true e g) else 0
theorem meetB_iff {a b c d e f g h : Int} : meetB a b c d e f g h = true ↔ mayS a b c d = true ∧ mayS e f g h = true ∧ lo true a c ≤ hi true e g ∧ lo true e g ≤ hi true a c ∧ lo true b d ≤ hi true f h ∧ lo true f h ≤ hi true b d := by
  simp only [meetB, Bool.and_eq_true, decide_eq_true_eq]
  exact ⟨fun ⟨⟨⟨⟨⟨p, q⟩, r⟩, s⟩, t⟩, u⟩ => ⟨p, q, r, s, t, u⟩, fun ⟨p, q, r, s, t, u⟩ => ⟨⟨⟨⟨⟨p, q⟩, r⟩, s⟩, t⟩, u⟩⟩
theorem meetB_comm (a b c d e f g h : Int) : meetB e f g h a b c d = meetB a b c d e f g h := by
  rw [Bool.eq_iff_iff, meetB_iff, meetB_iff]
  exact ⟨fun ⟨p, q, r, s, t, u⟩ => ⟨q, p, s, r, u, t⟩, fun ⟨p, q, r, s, t, u⟩ => ⟨q, p, s, r, u, t⟩⟩
theorem mlo_comm (m : Bool) (a c e g : Int) : mlo m e g a c = mlo m a c e g := by
  cases m
  · rfl
  · simp only [mlo, if_true]; (repeat' split) <;> omega
theorem mhi_comm (m : Bool) (a c e g : Int) : mhi m e g a c = mhi m a c e g := by
  cases m
  · rfl
  · simp only [mhi, if_true]; (repeat' split) <;> omega
/-- from the greater beginning to the lesser end: that it is not turned about says that they meet -/
theorem meet_test {a c e g : Int} : (mhi true a c e g < mlo true a c e g) ↔ ¬ (lo true a c ≤ hi true e g ∧ lo true e g ≤ hi true a c) := by
  simp only [mlo, mhi, lo, hi, if_true]
  (repeat' split) <;> omega
theorem meet_range {a b c d e f g h : Int} (m : meetB a b c d e f g h = true) : mayS (mlo true a c e g) (mlo true b d f h) (mhi true a c e g) (mhi true b d f h) = true ∧ mlo true a c e g ≤ mhi true a c e g ∧ mlo true b d f h ≤ mhi true b d f h := by
  obtain ⟨p, q, r, s, t, u⟩ := meetB_iff.1 m
  obtain ⟨p1, p2, p3, p4, p5, p6⟩ := lo_range p
  obtain ⟨q1, q2, q3, q4, q5, q6⟩ := lo_range q
  refine ⟨mayS_of ⟨?_, ?_, ?_, ?_⟩, ?_, ?_⟩ <;> simp only [mlo, mhi, if_true] <;> (repeat' split) <;> omega
theorem lo_of_le {a c : Int} (h : a ≤ c) : lo true a c = a := by simp only [lo, if_true, if_pos h]
theorem hi_of_le {a c : Int} (h : a ≤ c) : hi true a c = c := by simp only [hi, if_true, if_pos h]
/-- the meeting has just the cells of both -/
theorem meet_has {a b c d e f g h x y : Int} (m : meetB a b c d e f g h = true) : hasB (mlo true a c e g) (mlo true b d f h) (mhi true a c e g) (mhi true b d f h) x y = (hasB a b c d x y && hasB e f g h x y) := by
  obtain ⟨r1, r2, r3⟩ := meet_range m
  obtain ⟨p, q, r, s, t, u⟩ := meetB_iff.1 m
  rw [Bool.eq_iff_iff, Bool.and_eq_true, hasB_iff, hasB_iff, hasB_iff, lo_of_le r2, hi_of_le r2, lo_of_le r3, hi_of_le r3]
  simp only [p, q, r1, true_and]
  simp only [mlo, mhi, if_true]
  (repeat' split) <;> omega
/-- who has a cell of both meets -/
theorem has_meet {a b c d e f g h x y : Int} (h1 : hasB a b c d x y = true) (h2 : hasB e f g h x y = true) : meetB a b c d e f g h = true := by
  obtain ⟨p, p1, p2⟩ := hasB_iff.1 h1
  obtain ⟨q, q1, q2⟩ := hasB_iff.1 h2
  exact meetB_iff.2 ⟨p, q, by omega, by omega, by omega, by omega⟩
/-- is a span within another one? -/
def withB (a b c d e f g h : Int) : Bool := meetB a b c d e f g h && (mlo true a c e g == lo true a c && mlo true b d f h == lo true b d && mhi true a c e g == hi true a c && mhi true b d f h == hi true b d)
theorem with_has {a b c d e f g h x y : Int} (h1 : withB a b c d e f g h = true) (h2 : hasB a b c d x y = true) : hasB e f g h x y = true := by
  simp only [withB, Bool.and_eq_true, beq_iff_eq] at h1
  obtain ⟨m, ⟨⟨m1, m2⟩, m3⟩, m4⟩ := h1
  have h3 := meet_has (x := x) (y := y) m
  obtain ⟨p, p1, p2⟩ := hasB_iff.1 h2
  rw [m1, m2, m3, m4, h2, Bool.true_and] at h3
  rw [← h3]
  obtain ⟨r1, r2, r3⟩ := meet_range m
  rw [m1, m3] at r2
  rw [m2, m4] at r3
  rw [m1, m2, m3, m4] at r1
  exact hasB_iff.2 ⟨r1, by rw [lo_of_le r2, hi_of_le r2]; exact p1, by rw [lo_of_le r3, hi_of_le r3]; exact p2⟩
/-- a cell is in a span if the span of it alone is within that -/
theorem with_cell (a b c d x y : Int) : withB x y x y a b c d = hasB a b c d x y := by
  have hxx : lo true x x = x := lo_of_le (Int.le_refl _)
  have hyy : lo true y y = y := lo_of_le (Int.le_refl _)
  have hx2 : hi true x x = x := hi_of_le (Int.le_refl _)
  have hy2 : hi true y y = y := hi_of_le (Int.le_refl _)
  rw [Bool.eq_iff_iff, hasB_iff]
  simp only [withB, Bool.and_eq_true, beq_iff_eq, meetB_iff, hxx, hyy, hx2, hy2]
  constructor
  · rintro ⟨⟨_, q, r, s, t, u⟩, _⟩
    exact ⟨q, ⟨s, r⟩, u, t⟩
  · rintro ⟨q, ⟨s, r⟩, u, t⟩
    obtain ⟨q1, q2, q3, q4, q5, q6⟩ := lo_range q
    refine ⟨⟨mayS_of ⟨⟨by omega, by omega⟩, ⟨by omega, by omega⟩, ⟨by omega, by omega⟩, by omega, by omega⟩, q, r, s, t, u⟩, ⟨⟨?_, ?_⟩, ?_⟩, ?_⟩ <;>
      simp only [mlo, mhi, hxx, hyy, hx2, hy2, if_true] <;> split <;> omega

/-- a span as text -/
def textI (a b c d : Int) : List UInt8 := if mayS a b c d = true then (if a = c ∧ b = d then nameI a b else nameI a b ++ 58 :: nameI c d) else []
theorem name_clean {a b : Int} (h : mayB a b = true) : (58 : UInt8) ∉ nameI a b := by
  obtain ⟨i, j, rfl, rfl, hi, hj⟩ := of_mayB h
  rw [nameI_nat hi hj, nameN, List.mem_append, not_or]
  refine ⟨fun hm => ?_, fun hm => ?_⟩
  · have := (let_facts j (by omega) _ hm).1
    exact absurd this (by decide)
  · have := ((num_facts i (by omega)).1 _ hm).2
    exact absurd this (by decide)
theorem nameI_inj {a b c d : Int} (h1 : mayB a b = true) (h2 : mayB c d = true) (h : nameI a b = nameI c d) : a = c ∧ b = d := by
  obtain ⟨i, j, rfl, rfl, hi, hj⟩ := of_mayB h1
  obtain ⟨k, l, rfl, rfl, hk, hl⟩ := of_mayB h2
  rw [nameI_nat hi hj, nameI_nat hk hl] at h
  obtain ⟨rfl, rfl⟩ := name_inj hi hj hk hl h
  exact ⟨rfl, rfl⟩
theorem nameI_len {a b : Int} (h : mayB a b = true) : 1 ≤ (nameI a b).length ∧ (nameI a b).length ≤ 5 := by
  obtain ⟨i, j, rfl, rfl, hi, hj⟩ := of_mayB h
  rw [nameI_nat hi hj, nameN, List.length_append]
  have h1 := let_len1 j
  have h2 := num_length i
  omega
/-- what a reader of spans has to answer -/
def SpanIs (t : List UInt8) (a b c d : Int) (k : Bool) : Prop :=
  (k = true ∧ mayS a b c d = true ∧ textI a b c d = t) ∨ (k = false ∧ a = 0 ∧ b = 0 ∧ c = 0 ∧ d = 0 ∧ ∀ x y z u, mayS x y z u = true → textI x y z u ≠ t)
/-- the text ahead of the first colon -/
theorem colon_at {a b x y : List UInt8} (ha : (58 : UInt8) ∉ a) (hb : (58 : UInt8) ∉ b) (h : a ++ 58 :: x = b ++ 58 :: y) : a = b ∧ x = y := by
  induction a generalizing b with
  | nil =>
    cases b with
    | nil => simpa using h
    | cons c r =>
      simp only [List.nil_append, List.cons_append, List.cons.injEq] at h
      exact absurd (by simp [h.1]) hb
  | cons c r ih =>
    cases b with
    | nil =>
      simp only [List.nil_append, List.cons_append, List.cons.injEq] at h
      exact absurd (by simp [h.1]) ha
    | cons d q =>
      simp only [List.cons_append, List.cons.injEq] at h
      obtain ⟨h1, h2⟩ := ih (fun hh => ha (by simp [hh])) (fun hh => hb (by simp [hh])) h.2
      exact ⟨by rw [h.1, h1], h2⟩
theorem no_colon {a b x : List UInt8} (ha : (58 : UInt8) ∉ a) : a ≠ b ++ 58 :: x := fun e => ha (by rw [e]; simp)
theorem textI_inj {a b c d x y z u : Int} (h1 : mayS a b c d = true) (h2 : mayS x y z u = true) (h : textI a b c d = textI x y z u) : a = x ∧ b = y ∧ c = z ∧ d = u := by
  rw [textI, textI, if_pos h1, if_pos h2] at h
  have a1 := mayS_left h1
  have a2 := mayS_right h1
  have b1 := mayS_left h2
  have b2 := mayS_right h2
  by_cases e1 : a = c ∧ b = d
  · rw [if_pos e1] at h
    by_cases e2 : x = z ∧ y = u
    · rw [if_pos e2] at h
      obtain ⟨rfl, rfl⟩ := nameI_inj a1 b1 h
      exact ⟨rfl, rfl, e1.1.symm.trans e2.1, e1.2.symm.trans e2.2⟩
    · rw [if_neg e2] at h
      exact absurd h (no_colon (name_clean a1))
  · rw [if_neg e1] at h
    by_cases e2 : x = z ∧ y = u
    · rw [if_pos e2] at h
      exact absurd h.symm (no_colon (name_clean b1))
    · rw [if_neg e2] at h
      obtain ⟨h3, h4⟩ := colon_at (name_clean a1) (name_clean b1) h
      obtain ⟨rfl, rfl⟩ := nameI_inj a1 b1 h3
      obtain ⟨rfl, rfl⟩ := nameI_inj a2 b2 h4
      exact ⟨rfl, rfl, rfl, rfl⟩
theorem SpanIs.unique {t : List UInt8} {a b c d x y z u : Int} {k l : Bool} (h : SpanIs t a b c d k) (h' : SpanIs t x y z u l) : a = x ∧ b = y ∧ c = z ∧ d = u ∧ k = l := by
  rcases h with ⟨rfl, m, e⟩ | ⟨rfl, rfl, rfl, rfl, rfl, n⟩ <;> rcases h' with ⟨rfl, m', e'⟩ | ⟨rfl, rfl, rfl, rfl, rfl, n'⟩
  · obtain ⟨h1, h2, h3, h4⟩ := textI_inj m m' (e.trans e'.symm)
    exact ⟨h1, h2, h3, h4, rfl⟩
  · exact absurd e (n' _ _ _ _ m)
  · exact absurd e' (n _ _ _ _ m')
  · exact ⟨rfl, rfl, rfl, rfl, rfl⟩
theorem textI_out {a b c d : Int} (h : mayS a b c d = false) : textI a b c d = [] := by rw [textI, h, if_neg (by decide)]
theorem textI_len {a b c d : Int} (h : mayS a b c d = true) : 1 ≤ (textI a b c d).length ∧ (textI a b c d).length ≤ 11 := by
  have h1 := nameI_len (mayS_left h)
  have h2 := nameI_len (mayS_right h)
  rw [textI, if_pos h]
  split
  · omega
  · simp only [List.length_append, List.length_cons]; omega
theorem textI_short (a b c d : Int) : (textI a b c d).length ≤ 11 := by
  cases h : mayS a b c d with
  | true => exact (textI_len h).2
  | false => rw [textI_out h]; simp
theorem spanIs_text (a b c d : Int) : SpanIs (textI a b c d) (if mayS a b c d then a else 0) (if mayS a b c d then b else 0) (if mayS a b c d then c else 0) (if mayS a b c d then d else 0) (mayS a b c d) := by
  cases h : mayS a b c d with
  | true => exact .inl ⟨rfl, by simpa using h, by simp⟩
  | false =>
    rw [textI_out h]
    refine .inr ⟨rfl, rfl, rfl, rfl, rfl, fun x y z u m e => ?_⟩
    have := (textI_len m).1
    rw [e] at this
    simp at this
/-- a text without a colon is a cell's name, or none's -/
theorem SpanIs.one {t : List UInt8} {r c : Int} (h : CellIs t r c true) : SpanIs t r c r c true := by
  obtain ⟨h1, h2⟩ := h.back
  have hm : mayS r c r c = true := by simp [mayS, h1]
  exact .inl ⟨rfl, hm, by rw [textI, if_pos hm, if_pos ⟨rfl, rfl⟩, h2]⟩
theorem CellIs.none_of {t : List UInt8} {r c : Int} (h : CellIs t r c false) {x y : Int} (hm : mayB x y = true) : nameI x y ≠ t := fun e => by
  have h2 := CellIs.name hm
  rw [e] at h2
  have h3 := (h.unique h2).2.2
  cases h3
theorem SpanIs.no_name {t : List UInt8} (hc : (58 : UInt8) ∉ t) {r c : Int} (h : CellIs t r c false) : SpanIs t 0 0 0 0 false := by
  refine .inr ⟨rfl, rfl, rfl, rfl, rfl, fun x y z u m e => ?_⟩
  rw [textI, if_pos m] at e
  split at e
  · exact CellIs.none_of h (mayS_left m) e
  · exact hc (by rw [← e]; simp)
/-- a text with a colon is two cells' names, and these are two cells -/
theorem SpanIs.two {s v : List UInt8} {a b c d : Int} (h1 : CellIs s a b true) (h2 : CellIs v c d true) (hne : ¬ (a = c ∧ b = d)) : SpanIs (s ++ 58 :: v) a b c d true := by
  obtain ⟨m1, e1⟩ := h1.back
  obtain ⟨m2, e2⟩ := h2.back
  have hm : mayS a b c d = true := by simp [mayS, m1, m2]
  exact .inl ⟨rfl, hm, by rw [textI, if_pos hm, if_neg hne, e1, e2]⟩
theorem text_colon {x y z u : Int} {s v : List UInt8} (m : mayS x y z u = true) (hs : (58 : UInt8) ∉ s) (e : textI x y z u = s ++ 58 :: v) : nameI x y = s ∧ nameI z u = v ∧ ¬ (x = z ∧ y = u) := by
  rw [textI, if_pos m] at e
  split at e
  · exact absurd e (no_colon (name_clean (mayS_left m)))
  · rename_i hne
    obtain ⟨h1, h2⟩ := colon_at (name_clean (mayS_left m)) hs e
    exact ⟨h1, h2, hne⟩
theorem SpanIs.no_first {s v : List UInt8} (hs : (58 : UInt8) ∉ s) {r c : Int} (h : CellIs s r c false) : SpanIs (s ++ 58 :: v) 0 0 0 0 false := by
  refine .inr ⟨rfl, rfl, rfl, rfl, rfl, fun x y z u m e => ?_⟩
  exact CellIs.none_of h (mayS_left m) (text_colon m hs e).1
theorem SpanIs.no_second {s v : List UInt8} (hs : (58 : UInt8) ∉ s) {r c : Int} (h : CellIs v r c false) : SpanIs (s ++ 58 :: v) 0 0 0 0 false := by
  refine .inr ⟨rfl, rfl, rfl, rfl, rfl, fun x y z u m e => ?_⟩
  exact CellIs.none_of h (mayS_right m) (text_colon m hs e).2.1
theorem SpanIs.same {s v : List UInt8} (hs : (58 : UInt8) ∉ s) {a b : Int} (h1 : CellIs s a b true) (h2 : CellIs v a b true) : SpanIs (s ++ 58 :: v) 0 0 0 0 false := by
  refine .inr ⟨rfl, rfl, rfl, rfl, rfl, fun x y z u m e => ?_⟩
  obtain ⟨e1, e2, hne⟩ := text_colon m hs e
  have k1 := CellIs.name (mayS_left m)
  have k2 := CellIs.name (mayS_right m)
  rw [e1] at k1
  rw [e2] at k2
  obtain ⟨rfl, rfl, _⟩ := h1.unique k1
  obtain ⟨rfl, rfl, _⟩ := h2.unique k2
  exact hne ⟨rfl, rfl⟩
end Go.Proofs.YtmlmanlcomfhbaaGreatDoor.Span
namespace Go.Proofs.YtmlmanlcomfhbaaGreatDoor.Zone
open Go.RowKit Kit Reg Go.Proofs.YtmlmanlcomfhbaaGreatDoor.Span Go.Proofs.YtmlmanlcomfhbaaGreatDoor.Lab
open Go.Proofs.YtmlmanlcomfhbaaGreatDoor.Cats (U U_or U_zero)

structure Zn where
  a : Int
  b : Int
  c : Int
  d : Int
  l : Int
  s : Nat
def Zn.cells (z : Zn) : List Value := [.int .i64 z.a, .int .i64 z.b, .int .i64 z.c, .int .i64 z.d, .int .i64 z.l, .int .u64 z.s]
/-- has its span the cell? -/
def Zn.has (z : Zn) (x y : Int) : Bool := hasB z.a z.b z.c z.d x y
/-- a cell's container: the first zone's label that has it -/
def contF : List Zn → Int → Int → Int × Nat
  | [], _, _ => (0, 0)
  | z :: r, x, y => if z.has x y = true then (z.l, z.s) else contF r x y
theorem contF_U : ∀ {zs : List Zn} {x y : Int}, (∀ z ∈ zs, U z.s) → U (contF zs x y).2
  | [], _, _, _ => U_zero
  | z :: r, x, y, h => by
    unfold contF
    split
    · exact h z (by simp)
    · exact contF_U fun u hu => h u (by simp [hu])
theorem drop_at {α : Type} {l : List α} {k : Nat} {z : α} (h : l[k]? = some z) : l.drop k = z :: l.drop (k + 1) := by
  obtain ⟨hk, rfl⟩ := List.getElem?_eq_some_iff.1 h
  exact List.drop_eq_getElem_cons hk
theorem contF_hit {zs : List Zn} {k : Nat} {z : Zn} {x y : Int} (h : zs[k]? = some z) (hh : z.has x y = true) : contF (zs.drop k) x y = (z.l, z.s) := by rw [drop_at h, contF, if_pos hh]
theorem contF_miss {zs : List Zn} {k : Nat} {z : Zn} {x y : Int} (h : zs[k]? = some z) (hh : z.has x y = false) : contF (zs.drop k) x y = contF (zs.drop (k + 1)) x y := by rw [drop_at h, contF, if_neg (by rw [hh]; simp)]
theorem contF_end (zs : List Zn) (x y : Int) : contF (zs.drop zs.length) x y = (0, 0) := by rw [List.drop_length]; rfl
/-- the join of the bottom and the containers of cells -/
def overF (zs : List Zn) (cs : List (Int × Int)) : Int × Nat := cs.foldl (fun a c => (joinI a.1 (contF zs c.1 c.2).1, a.2 ||| (contF zs c.1 c.2).2)) (0, 0)
theorem overF_snoc (zs : List Zn) (cs : List (Int × Int)) (c : Int × Int) : overF zs (cs ++ [c]) = (joinI (overF zs cs).1 (contF zs c.1 c.2).1, (overF zs cs).2 ||| (contF zs c.1 c.2).2) := by simp [overF, List.foldl_append]
theorem over_U {zs : List Zn} (h : ∀ z ∈ zs, U z.s) : ∀ (cs : List (Int × Int)) (a : Int × Nat), U a.2 → U (cs.foldl (fun a c => (joinI a.1 (contF zs c.1 c.2).1, a.2 ||| (contF zs c.1 c.2).2)) a).2
  | [], _, ha => ha
  | _ :: r, _, ha => over_U h r _ (U_or ha (contF_U h))
theorem overF_U {zs : List Zn} (h : ∀ z ∈ zs, U z.s) (cs : List (Int × Int)) : U (overF zs cs).2 := over_U h cs _ U_zero
theorem over_ge {zs : List Zn} (h : ∀ z ∈ zs, U z.s) : ∀ (cs : List (Int × Int)) (a : Int × Nat), U a.2 →
    belowL a.1 a.2 (cs.foldl (fun a c => (joinI a.1 (contF zs c.1 c.2).1, a.2 ||| (contF zs c.1 c.2).2)) a).1 (cs.foldl (fun a c => (joinI a.1 (contF zs c.1 c.2).1, a.2 ||| (contF zs c.1 c.2).2)) a).2 = true ∧
    ∀ c ∈ cs, belowL (contF zs c.1 c.2).1 (contF zs c.1 c.2).2 (cs.foldl (fun a c => (joinI a.1 (contF zs c.1 c.2).1, a.2 ||| (contF zs c.1 c.2).2)) a).1 (cs.foldl (fun a c => (joinI a.1 (contF zs c.1 c.2).1, a.2 ||| (contF zs c.1 c.2).2)) a).2 = true
  | [], a, ha => ⟨below_refl ha, fun c hc => by cases hc⟩
  | d :: r, a, ha => by
    have hd : U (contF zs d.1 d.2).2 := contF_U h
    obtain ⟨h1, h2⟩ := over_ge h r (joinI a.1 (contF zs d.1 d.2).1, a.2 ||| (contF zs d.1 d.2).2) (U_or ha hd)
    have hu := over_U h r (joinI a.1 (contF zs d.1 d.2).1, a.2 ||| (contF zs d.1 d.2).2) (U_or ha hd)
    rw [List.foldl_cons]
    refine ⟨below_trans ha (U_or ha hd) hu (below_join_l ha hd) h1, fun c hc => ?_⟩
    rcases List.mem_cons.1 hc with rfl | hc
    · exact below_trans hd (U_or ha hd) hu (below_join_r ha hd) h1
    · exact h2 c hc
theorem overF_ge {zs : List Zn} (h : ∀ z ∈ zs, U z.s) {cs : List (Int × Int)} {c : Int × Int} (hc : c ∈ cs) : belowL (contF zs c.1 c.2).1 (contF zs c.1 c.2).2 (overF zs cs).1 (overF zs cs).2 = true := (over_ge h cs (0, 0) U_zero).2 c hc
/-- the cells whose container is at or below a label -/
def seenF (zs : List Zn) (cs : List (Int × Int)) (l : Int) (s : Nat) : List (Int × Int) := cs.filter fun c => belowL (contF zs c.1 c.2).1 (contF zs c.1 c.2).2 l s
theorem seenF_all {zs : List Zn} (h : ∀ z ∈ zs, U z.s) (cs : List (Int × Int)) : seenF zs cs (overF zs cs).1 (overF zs cs).2 = cs := List.filter_eq_self.2 fun _ hc => overF_ge h hc
theorem seenF_snoc (zs : List Zn) (cs : List (Int × Int)) (c : Int × Int) (l : Int) (s : Nat) : seenF zs (cs ++ [c]) l s = seenF zs cs l s ++ (if belowL (contF zs c.1 c.2).1 (contF zs c.1 c.2).2 l s = true then [c] else []) := by
  unfold seenF
  rw [List.filter_append]
  congr 1
  rw [List.filter_cons]
  simp
theorem seenF_len (zs : List Zn) (cs : List (Int × Int)) (l : Int) (s : Nat) : (seenF zs cs l s).length ≤ cs.length := List.length_filter_le _ _
/-- what is wrong with a zone at a place -/
def goodS (z : Zn) : Bool := mayS z.a z.b z.c z.d && (decide (z.a ≤ z.c) && decide (z.b ≤ z.d))
def whyI (k : Nat) (z : Zn) (rows cols : Int) : Int :=
  if 31 < k then 10 else if goodS z = false then 1 else if rows ≤ z.c ∨ cols ≤ z.d then 2 else if mayL z.l = false then 7 else 0
/-- the first zone that is wrong from a place on, and why -/
def wrongF : Nat → List Zn → Int → Int → Int × Int
  | _, [], _, _ => (0, 0)
  | k, z :: r, rows, cols => if whyI k z rows cols = 0 then wrongF (k + 1) r rows cols else (k, whyI k z rows cols)
theorem wrongF_hit {zs : List Zn} {k : Nat} {z : Zn} {x y : Int} (h : zs[k]? = some z) (hh : whyI k z x y ≠ 0) : wrongF k (zs.drop k) x y = ((k : Int), whyI k z x y) := by rw [drop_at h, wrongF, if_neg hh]
theorem wrongF_miss {zs : List Zn} {k : Nat} {z : Zn} {x y : Int} (h : zs[k]? = some z) (hh : whyI k z x y = 0) : wrongF k (zs.drop k) x y = wrongF (k + 1) (zs.drop (k + 1)) x y := by rw [drop_at h, wrongF, if_pos hh]
theorem wrongF_end (zs : List Zn) (x y : Int) : wrongF zs.length (zs.drop zs.length) x y = (0, 0) := by rw [List.drop_length]; rfl

/-- a slice, nil too, that reads as a list of zones -/
def ZonesR (w : World) (A : Option Addr) (n : Nat) (zs : List Zn) : Prop :=
  zs.length = n ∧ n ≤ 140737488355328 ∧ (∀ z ∈ zs, U z.s) ∧ (n ≠ 0 → ∃ b o, A = some ⟨b, o, none⟩ ∧ b < w.heap.size ∧ ∀ k z, zs[k]? = some z → ∀ j v, z.cells[j]? = some v → w.cell? ⟨b, o + k * 6 + j, none⟩ = some v)
theorem ZonesR.on {w w' : World} {A : Option Addr} {n : Nat} {zs : List Zn} (h : ZonesR w A n zs) (hb : Below w.heap.size w w') : ZonesR w' A n zs := by
  obtain ⟨h1, h2, hu, h3⟩ := h
  refine ⟨h1, h2, hu, fun hn => ?_⟩
  obtain ⟨b, o, rfl, hlt, hc⟩ := h3 hn
  exact ⟨b, o, rfl, Nat.lt_of_lt_of_le hlt hb.size, fun k z hk j v hj => (hb.cell (p := ⟨b, o + k * 6 + j, none⟩) hlt).trans (hc k z hk j v hj)⟩
/-- a zone's six cells -/
theorem zone_six {w : World} {b o k : Nat} {z : Zn} (h : ∀ j v, z.cells[j]? = some v → w.cell? ⟨b, o + k * 6 + j, none⟩ = some v) :
    w.cell? ⟨b, o + k * 6, none⟩ = some (.int .i64 z.a) ∧ w.cell? ⟨b, o + k * 6 + 1, none⟩ = some (.int .i64 z.b) ∧ w.cell? ⟨b, o + k * 6 + 2, none⟩ = some (.int .i64 z.c) ∧
    w.cell? ⟨b, o + k * 6 + 3, none⟩ = some (.int .i64 z.d) ∧ w.cell? ⟨b, o + k * 6 + 4, none⟩ = some (.int .i64 z.l) ∧ w.cell? ⟨b, o + k * 6 + 5, none⟩ = some (.int .u64 z.s) :=
  ⟨h 0 _ rfl, h 1 _ rfl, h 2 _ rfl, h 3 _ rfl, h 4 _ rfl, h 5 _ rfl⟩
theorem six {w : World} {b : Nat} {x y z u v t : Value} (h : CellsAt w b [x, y, z, u, v, t]) : w.cell? ⟨b, 0, none⟩ = some x ∧ w.cell? ⟨b, 1, none⟩ = some y ∧ w.cell? ⟨b, 2, none⟩ = some z ∧ w.cell? ⟨b, 3, none⟩ = some u ∧ w.cell? ⟨b, 4, none⟩ = some v ∧ w.cell? ⟨b, 5, none⟩ = some t :=
  ⟨(h.2 0 x rfl).1, (h.2 1 y rfl).1, (h.2 2 z rfl).1, (h.2 3 u rfl).1, (h.2 4 v rfl).1, (h.2 5 t rfl).1⟩
end Go.Proofs.YtmlmanlcomfhbaaGreatDoor.Zone
namespace Go.Proofs.YtmlmanlcomfhbaaGreatDoor.Right
open Go.RowKit Kit Reg Go.Proofs.YtmlmanlcomfhbaaGreatDoor.Lab
open Go.Proofs.YtmlmanlcomfhbaaGreatDoor.Cats (U U_or U_zero)

structure Us where
  name : ByteArray
  l : Int
  s : Nat
def Us.cells (u : Us) : List Value := [.string u.name, .int .i64 u.l, .int .u64 u.s]
structure Gr where
  name : ByteArray
  l : Int
  s : Nat
  k : Int
  r : Nat
/-- a grant's user, From (l, s), To (k, r) -/
def Gr.cells (g : Gr) : List Value := [.string g.name, .int .i64 g.l, .int .u64 g.s, .int .i64 g.k, .int .u64 g.r]

/-- a small letter, a digit -/
def letB (b : UInt8) : Bool := decide (97 ≤ b.toNat) && decide (b.toNat ≤ 122)
def digB (b : UInt8) : Bool := decide (48 ≤ b.toNat) && decide (b.toNat ≤ 57)
def wordB (b : UInt8) : Bool := letB b || digB b
/-- is a text a name? -/
def nameB (t : List UInt8) : Bool := decide (1 ≤ t.length) && decide (t.length ≤ 16) && letB (t.getD 0 0) && t.all wordB
theorem all_from {t : List UInt8} {k : Nat} {b : UInt8} (h : t[k]? = some b) : (t.drop k).all wordB = (wordB b && (t.drop (k + 1)).all wordB) := by
  obtain ⟨hk, rfl⟩ := List.getElem?_eq_some_iff.1 h
  rw [List.drop_eq_getElem_cons hk, List.all_cons]

/-- are two texts the same, as the walk asks it? -/
theorem name_eq {x y : ByteArray} : (x.toList == y.toList) = true ↔ x = y := by
  rw [beq_iff_eq, Lib.toList_data, Lib.toList_data]
  exact ⟨fun h => ByteArray.ext (Array.toList_inj.1 h), fun h => by rw [h]⟩
theorem name_ne {x y : ByteArray} (h : x ≠ y) : (x.toList == y.toList) = false := by
  rw [Bool.eq_false_iff]
  exact fun e => h (name_eq.1 e)
theorem name_refl (x : ByteArray) : (x.toList == x.toList) = true := name_eq.2 rfl
/-- the place of the first user of a name, from a place on; -1: none -/
def findI : List Us → ByteArray → Nat → Int
  | [], _, _ => -1
  | u :: r, t, k => if (u.name.toList == t.toList) = true then k else findI r t (k + 1)
theorem drop_at {α : Type} {l : List α} {k : Nat} {z : α} (h : l[k]? = some z) : l.drop k = z :: l.drop (k + 1) := by
  obtain ⟨hk, rfl⟩ := List.getElem?_eq_some_iff.1 h
  exact List.drop_eq_getElem_cons hk
theorem findI_hit {us : List Us} {k : Nat} {u : Us} {t : ByteArray} (h : us[k]? = some u) (hh : (u.name.toList == t.toList) = true) : findI (us.drop k) t k = k := by rw [drop_at h, findI, if_pos hh]
theorem findI_miss {us : List Us} {k : Nat} {u : Us} {t : ByteArray} (h : us[k]? = some u) (hh : (u.name.toList == t.toList) = false) : findI (us.drop k) t k = findI (us.drop (k + 1)) t (k + 1) := by rw [drop_at h, findI, if_neg (by rw [hh]; simp)]
theorem findI_end (us : List Us) (t : ByteArray) : findI (us.drop us.length) t us.length = -1 := by rw [List.drop_length]; rfl
/-- what is found stands there, and nobody of that name ahead -/
theorem findI_or : ∀ (us : List Us) (t : ByteArray) (k : Nat), findI us t k = -1 ∨ ∃ i u, us[i]? = some u ∧ u.name = t ∧ findI us t k = ((k + i : Nat) : Int)
  | [], _, _ => .inl rfl
  | u :: r, t, k => by
    unfold findI
    by_cases h : (u.name.toList == t.toList) = true
    · rw [if_pos h]
      exact .inr ⟨0, u, rfl, name_eq.1 h, by simp⟩
    · rw [if_neg h]
      rcases findI_or r t (k + 1) with h1 | ⟨i, v, h1, h2, h3⟩
      · exact .inl h1
      · exact .inr ⟨i + 1, v, by simpa using h1, h2, by rw [h3]; congr 1; omega⟩
/-- may a user act at a label? 0, 11 or 12 -/
def actsI (us : List Us) (t : ByteArray) (l : Int) (s : Nat) : Int :=
  if findI us t 0 < 0 then 11 else match us[(findI us t 0).toNat]? with
    | some u => if mayL l = true ∧ belowL l s u.l u.s = true then 0 else 12
    | none => 0
/-- does a grant let a user lower a label to another one? -/
def Gr.lets (g : Gr) (t : ByteArray) (l : Int) (s : Nat) (k : Int) (r : Nat) : Bool := (g.name.toList == t.toList) && belowL l s g.l g.s && belowL g.k g.r k r
def lowersB (gs : List Gr) (t : ByteArray) (l : Int) (s : Nat) (k : Int) (r : Nat) : Bool := gs.any fun g => g.lets t l s k r
/-- does a grant leak to a label? -/
def Gr.leaks (g : Gr) (l : Int) (s : Nat) : Bool := belowL g.k g.r l s && !belowL g.l g.s l s
def leakyF (gs : List Gr) (l : Int) (s : Nat) : List Gr := gs.filter fun g => g.leaks l s
theorem leakyF_snoc (gs : List Gr) (g : Gr) (l : Int) (s : Nat) : leakyF (gs ++ [g]) l s = leakyF gs l s ++ (if g.leaks l s = true then [g] else []) := by
  unfold leakyF
  rw [List.filter_append]
  congr 1
  rw [List.filter_cons]
  simp
/-- names, each once, in order -/
def hasN (a : List ByteArray) (n : ByteArray) : Bool := a.any fun m => m.toList == n.toList
def stepN (a : List ByteArray) (n : ByteArray) : List ByteArray := if hasN a n = true then a else a ++ [n]
def onceF (ns : List ByteArray) : List ByteArray := ns.foldl stepN []
theorem onceF_snoc (ns : List ByteArray) (n : ByteArray) : onceF (ns ++ [n]) = stepN (onceF ns) n := by simp [onceF, List.foldl_append]
def holdersF (gs : List Gr) (l : Int) (s : Nat) : List ByteArray := onceF ((leakyF gs l s).map Gr.name)
theorem hasN_snoc (a : List ByteArray) (m n : ByteArray) : hasN (a ++ [m]) n = (hasN a n || (m.toList == n.toList)) := by simp [hasN, List.any_append]
theorem once_mem (n : ByteArray) : ∀ (ns a : List ByteArray), hasN (ns.foldl stepN a) n = (hasN a n || hasN ns n)
  | [], a => by simp [hasN]
  | m :: r, a => by
    have hc : hasN (m :: r) n = ((m.toList == n.toList) || hasN r n) := by simp [hasN]
    rw [List.foldl_cons, once_mem n r, hc]
    unfold stepN
    by_cases h : hasN a m = true
    · rw [if_pos h]
      by_cases hnm : m = n
      · subst hnm; rw [h]; simp
      · rw [name_ne hnm, Bool.false_or]
    · rw [if_neg h, hasN_snoc, Bool.or_assoc]
theorem onceF_mem (ns : List ByteArray) (n : ByteArray) : hasN (onceF ns) n = hasN ns n := by unfold onceF; rw [once_mem]; simp [hasN]
/-- what is wrong with a user at a place, those ahead of whom are given -/
def whyU (k : Nat) (u : Us) (f : Int) : Int := if 15 < k then 10 else if nameB u.name.data.toList = false then 1 else if f ≠ k then 8 else if mayL u.l = false then 7 else 0
def wrongU (us : List Us) : Nat → List Us → Int × Int
  | _, [] => (0, 0)
  | k, u :: r => if whyU k u (findI us u.name 0) = 0 then wrongU us (k + 1) r else ((k : Int), whyU k u (findI us u.name 0))
/-- .. with a grant -/
def whyG (k : Nat) (g : Gr) (us : List Us) : Int := if 31 < k then 10 else if findI us g.name 0 < 0 then 11 else if mayL g.l = false ∨ mayL g.k = false then 7 else 0
def wrongG (us : List Us) : Nat → List Gr → Int × Int
  | _, [] => (0, 0)
  | k, g :: r => if whyG k g us = 0 then wrongG us (k + 1) r else ((k : Int), whyG k g us)

/-- a slice, nil too, that reads as a list of users -/
def UsersR (w : World) (A : Option Addr) (n : Nat) (us : List Us) : Prop :=
  us.length = n ∧ n ≤ 140737488355328 ∧ (∀ z ∈ us, U z.s) ∧ (n ≠ 0 → ∃ b o, A = some ⟨b, o, none⟩ ∧ b < w.heap.size ∧ ∀ k z, us[k]? = some z → ∀ j v, z.cells[j]? = some v → w.cell? ⟨b, o + k * 3 + j, none⟩ = some v)
theorem UsersR.on {w w' : World} {A : Option Addr} {n : Nat} {us : List Us} (h : UsersR w A n us) (hb : Below w.heap.size w w') : UsersR w' A n us := by
  obtain ⟨h1, h2, hu, h3⟩ := h
  refine ⟨h1, h2, hu, fun hn => ?_⟩
  obtain ⟨b, o, rfl, hlt, hc⟩ := h3 hn
  exact ⟨b, o, rfl, Nat.lt_of_lt_of_le hlt hb.size, fun k z hk j v hj => (hb.cell (p := ⟨b, o + k * 3 + j, none⟩) hlt).trans (hc k z hk j v hj)⟩
theorem user_cells {w : World} {b o k : Nat} {z : Us} (h : ∀ j v, z.cells[j]? = some v → w.cell? ⟨b, o + k * 3 + j, none⟩ = some v) :
    w.cell? ⟨b, o + k * 3, none⟩ = some (.string z.name) ∧ w.cell? ⟨b, o + k * 3 + 1, none⟩ = some (.int .i64 z.l) ∧ w.cell? ⟨b, o + k * 3 + 2, none⟩ = some (.int .u64 z.s) := ⟨h 0 _ rfl, h 1 _ rfl, h 2 _ rfl⟩
/-- .. of grants -/
def GrantsR (w : World) (A : Option Addr) (n : Nat) (gs : List Gr) : Prop :=
  gs.length = n ∧ n ≤ 140737488355328 ∧ (∀ z ∈ gs, U z.s ∧ U z.r) ∧ (n ≠ 0 → ∃ b o, A = some ⟨b, o, none⟩ ∧ b < w.heap.size ∧ ∀ k z, gs[k]? = some z → ∀ j v, z.cells[j]? = some v → w.cell? ⟨b, o + k * 5 + j, none⟩ = some v)
theorem GrantsR.on {w w' : World} {A : Option Addr} {n : Nat} {gs : List Gr} (h : GrantsR w A n gs) (hb : Below w.heap.size w w') : GrantsR w' A n gs := by
  obtain ⟨h1, h2, hu, h3⟩ := h
  refine ⟨h1, h2, hu, fun hn => ?_⟩
  obtain ⟨b, o, rfl, hlt, hc⟩ := h3 hn
  exact ⟨b, o, rfl, Nat.lt_of_lt_of_le hlt hb.size, fun k z hk j v hj => (hb.cell (p := ⟨b, o + k * 5 + j, none⟩) hlt).trans (hc k z hk j v hj)⟩
theorem grant_cells {w : World} {b o k : Nat} {z : Gr} (h : ∀ j v, z.cells[j]? = some v → w.cell? ⟨b, o + k * 5 + j, none⟩ = some v) :
    w.cell? ⟨b, o + k * 5, none⟩ = some (.string z.name) ∧ w.cell? ⟨b, o + k * 5 + 1, none⟩ = some (.int .i64 z.l) ∧ w.cell? ⟨b, o + k * 5 + 2, none⟩ = some (.int .u64 z.s) ∧
    w.cell? ⟨b, o + k * 5 + 3, none⟩ = some (.int .i64 z.k) ∧ w.cell? ⟨b, o + k * 5 + 4, none⟩ = some (.int .u64 z.r) := ⟨h 0 _ rfl, h 1 _ rfl, h 2 _ rfl, h 3 _ rfl, h 4 _ rfl⟩
end Go.Proofs.YtmlmanlcomfhbaaGreatDoor.Right
namespace Go.Proofs.YtmlmanlcomfhbaaGreatDoor.Cats

theorem and_byte (y r m t : Nat) (hr : r < 256) (ht : t < 256) : (256 * y + r) &&& (256 * m + t) = 256 * (y &&& m) + (r &&& t) := by
  have hd := Nat.and_div_two_pow (a := 256 * y + r) (b := 256 * m + t) (n := 8)
  have hm := Nat.and_mod_two_pow (a := 256 * y + r) (b := 256 * m + t) (n := 8)
  have e1 : (256 * y + r) / 2 ^ 8 = y := by omega
  have e2 : (256 * m + t) / 2 ^ 8 = m := by omega
  have e3 : (256 * y + r) % 2 ^ 8 = r := by omega
  have e4 : (256 * m + t) % 2 ^ 8 = t := by omega
  rw [e1, e2] at hd
  rw [e3, e4] at hm
  omega

/-- a number of n bytes, each the same -/
def mk : Nat → Nat → Nat
  | 0, _ => 0
  | n + 1, t => 256 * mk n t + t

theorem mk_succ (n t : Nat) : mk (n + 1) t = 256 * mk n t + t := rfl
def g1 (n s : Nat) : Nat := (s / 2 &&& mk n 85) + (s &&& mk n 85)
def g2 (n s : Nat) : Nat := (g1 n s / 4 &&& mk n 51) + (g1 n s &&& mk n 51)
def g3 (n s : Nat) : Nat := (g2 n s / 16 + g2 n s) &&& mk n 15
def b1 (r : Nat) : Nat := (r / 2 &&& 85) + (r &&& 85)
def b2 (r : Nat) : Nat := (b1 r / 4 &&& 51) + (b1 r &&& 51)
def pop8 (r : Nat) : Nat := ((List.range 8).filter r.testBit).length

theorem byte_facts : ∀ r, r < 256 → b1 r < 256 ∧ b2 r ≤ 68 ∧ b2 r % 16 ≤ 4 ∧ (b2 r / 16 + b2 r) % 16 = pop8 r ∧ pop8 r ≤ 8 := by decide +kernel
theorem low55 : ∀ b, b < 2 → ∀ q, q < 128 → (128 * b + q) &&& 85 = q &&& 85 := by decide +kernel
theorem low33 : ∀ b, b < 4 → ∀ q, q < 64 → (64 * b + q) &&& 51 = q &&& 51 := by decide +kernel

theorem g1_step (n y r : Nat) (hr : r < 256) : g1 (n + 1) (256 * y + r) = 256 * g1 n y + b1 r := by
  have e : (256 * y + r) / 2 = 256 * (y / 2) + (128 * (y % 2) + r / 2) := by omega
  unfold g1 b1
  rw [mk_succ, e, and_byte _ _ _ _ (by omega) (by omega), and_byte _ _ _ _ hr (by omega), low55 _ (by omega) _ (by omega)]
  omega
theorem g2_step (n y r : Nat) (hr : r < 256) : g2 (n + 1) (256 * y + r) = 256 * g2 n y + b2 r := by
  have hb := (byte_facts r hr).1
  have e : (256 * g1 n y + b1 r) / 4 = 256 * (g1 n y / 4) + (64 * (g1 n y % 4) + b1 r / 4) := by omega
  unfold g2 b2
  rw [g1_step n y r hr, mk_succ, e, and_byte _ _ _ _ (by omega) (by omega), and_byte _ _ _ _ hb (by omega), low33 _ (by omega) _ (by omega)]
  omega
theorem and15 (x : Nat) : x &&& 15 = x % 16 := Nat.and_two_pow_sub_one_eq_mod x 4
theorem g3_step (n y r : Nat) (hr : r < 256) (hy : g2 n y % 16 ≤ 4) : g3 (n + 1) (256 * y + r) = 256 * g3 n y + pop8 r := by
  obtain ⟨_, hb2, _, hp, _⟩ := byte_facts r hr
  have e : (256 * g2 n y + b2 r) / 16 + (256 * g2 n y + b2 r) = 256 * (g2 n y / 16 + g2 n y) + (16 * (g2 n y % 16) + (b2 r / 16 + b2 r)) := by omega
  unfold g3
  rw [g2_step n y r hr, mk_succ, e, and_byte _ _ _ _ (by omega) (by omega), and15]
  omega

def pops (n s : Nat) : Nat := ((List.range (8 * n)).filter s.testBit).length
theorem pops_step (n y r : Nat) (hr : r < 256) : pops (n + 1) (256 * y + r) = pop8 r + pops n y := by
  have e : 8 * (n + 1) = 8 + 8 * n := by omega
  have hlo : ∀ i ∈ List.range 8, (256 * y + r).testBit i = r.testBit i := by
    intro i hi
    have hi : i < 8 := by simpa using hi
    have hm := Nat.testBit_mod_two_pow (256 * y + r) 8 i
    have e3 : (256 * y + r) % 2 ^ 8 = r := by omega
    rw [e3] at hm
    simp [hm, hi]
  have hhi : ∀ i, (256 * y + r).testBit (8 + i) = y.testBit i := by
    intro i
    have hm := Nat.testBit_div_two_pow (n := 8) (256 * y + r) i
    have e1 : (256 * y + r) / 2 ^ 8 = y := by omega
    rw [e1] at hm
    rw [hm, Nat.add_comm i 8]
  unfold pops pop8
  rw [e, List.range_add, List.filter_append, List.length_append, List.filter_congr hlo, List.filter_map, List.length_map]
  congr 2
  exact List.filter_congr fun i _ => hhi i

theorem g2_low (n s : Nat) : g2 n s % 16 ≤ 4 := by
  cases n with
  | zero => simp [g2, g1, mk]
  | succ n =>
    have hs : s = 256 * (s / 256) + s % 256 := by omega
    have hr : s % 256 < 256 := by omega
    rw [hs, g2_step n _ _ hr]
    have := (byte_facts _ hr).2.2.1
    omega

/-- the sum of a number's lowest n bytes -/
def sums : Nat → Nat → Nat
  | 0, _ => 0
  | n + 1, x => x % 256 + sums n (x / 256)
theorem sums_g3 (n s : Nat) : sums n (g3 n s) = pops n s ∧ g3 n s < 256 ^ n := by
  induction n generalizing s with
  | zero => simp [sums, pops, g3, mk]
  | succ n ih =>
    have hs : s = 256 * (s / 256) + s % 256 := by omega
    have hr : s % 256 < 256 := by omega
    obtain ⟨i1, i2⟩ := ih (s / 256)
    obtain ⟨_, _, _, _, h8⟩ := byte_facts _ hr
    have hg := g3_step n (s / 256) (s % 256) hr (g2_low n _)
    rw [← hs] at hg
    have hp := pops_step n (s / 256) (s % 256) hr
    rw [← hs] at hp
    rw [hg, hp, ← i1]
    refine ⟨?_, ?_⟩
    · have e1 : (256 * g3 n (s / 256) + pop8 (s % 256)) % 256 = pop8 (s % 256) := by omega
      have e2 : (256 * g3 n (s / 256) + pop8 (s % 256)) / 256 = g3 n (s / 256) := by omega
      show (256 * g3 n (s / 256) + pop8 (s % 256)) % 256 + sums n ((256 * g3 n (s / 256) + pop8 (s % 256)) / 256) = _
      rw [e1, e2]
    · rw [Nat.pow_succ]
      omega
/-- each byte of the sums is at most 8 -/
theorem g3_bytes (n s i : Nat) : g3 n s / 256 ^ i % 256 ≤ 8 := by
  induction n generalizing s i with
  | zero => simp [g3, mk]
  | succ n ih =>
    have hs : s = 256 * (s / 256) + s % 256 := by omega
    have hr : s % 256 < 256 := by omega
    obtain ⟨_, _, _, _, h8⟩ := byte_facts _ hr
    rw [hs, g3_step n _ _ hr (g2_low n _)]
    cases i with
    | zero => simp; omega
    | succ i =>
      have e2 : (256 * g3 n (s / 256) + pop8 (s % 256)) / 256 = g3 n (s / 256) := by omega
      rw [Nat.pow_succ, Nat.mul_comm (256 ^ i), ← Nat.div_div_eq_div_mul, e2]
      exact ih _ i

def fin1 (x : Nat) : Nat := x + x / 256
def fin2 (x : Nat) : Nat := x + x / 65536
def fin3 (x : Nat) : Nat := x + x / 4294967296
theorem dv1 (a q : Nat) (ha : a < 256) : (a + 256 * q) / 256 = q := by omega
theorem dv2 (a b q : Nat) (ha : a < 256) (hb : b < 256) : (a + 256 * (b + 256 * q)) / 65536 = q := by omega
theorem dv4 (a b c d q : Nat) (ha : a < 256) (hb : b < 256) (hc : c < 256) (hd : d < 256) : (a + 256 * (b + 256 * (c + 256 * (d + 256 * q)))) / 4294967296 = q := by omega
theorem sum2 (a b q : Nat) : a + 256 * q + (b + q) = (a + b) + (q + 256 * q) := by omega
theorem fin1_digit (a q : Nat) (ha : a < 256) : fin1 (a + 256 * q) = a + 256 * q + q := by unfold fin1; rw [dv1 _ _ ha]
theorem fin2_digit (a b q : Nat) (ha : a < 256) (hb : b < 256) : fin2 (a + 256 * (b + 256 * q)) = a + 256 * (b + 256 * q) + q := by unfold fin2; rw [dv2 _ _ _ ha hb]
theorem fin3_digit (a b c d q : Nat) (ha : a < 256) (hb : b < 256) (hc : c < 256) (hd : d < 256) : fin3 (a + 256 * (b + 256 * (c + 256 * (d + 256 * q)))) = a + 256 * (b + 256 * (c + 256 * (d + 256 * q))) + q := by unfold fin3; rw [dv4 _ _ _ _ _ ha hb hc hd]
theorem lin1 (x0 x1 x2 x3 x4 x5 x6 x7 : Nat) : x0 + 256 * (x1 + 256 * (x2 + 256 * (x3 + 256 * (x4 + 256 * (x5 + 256 * (x6 + 256 * x7)))))) + (x1 + 256 * (x2 + 256 * (x3 + 256 * (x4 + 256 * (x5 + 256 * (x6 + 256 * x7)))))) = (x0 + x1) + 256 * ((x1 + x2) + 256 * ((x2 + x3) + 256 * ((x3 + x4) + 256 * ((x4 + x5) + 256 * ((x5 + x6) + 256 * ((x6 + x7) + 256 * x7)))))) := by
  simp only [Nat.mul_add, Nat.add_assoc, ← Nat.mul_assoc, Nat.reduceMul]
  omega
theorem lin2 (x0 x1 x2 x3 x4 x5 x6 x7 : Nat) : x0 + 256 * (x1 + 256 * (x2 + 256 * (x3 + 256 * (x4 + 256 * (x5 + 256 * (x6 + 256 * x7)))))) + (x2 + 256 * (x3 + 256 * (x4 + 256 * (x5 + 256 * (x6 + 256 * x7))))) = (x0 + x2) + 256 * ((x1 + x3) + 256 * ((x2 + x4) + 256 * ((x3 + x5) + 256 * ((x4 + x6) + 256 * ((x5 + x7) + 256 * (x6 + 256 * x7)))))) := by
  simp only [Nat.mul_add, Nat.add_assoc, ← Nat.mul_assoc, Nat.reduceMul]
  omega
theorem fin_digits (x0 x1 x2 x3 x4 x5 x6 x7 : Nat) (h0 : x0 ≤ 8) (h1 : x1 ≤ 8) (h2 : x2 ≤ 8) (h3 : x3 ≤ 8) (h4 : x4 ≤ 8) (h5 : x5 ≤ 8) (h6 : x6 ≤ 8) (h7 : x7 ≤ 8) :
    fin3 (fin2 (fin1 (x0 + 256 * (x1 + 256 * (x2 + 256 * (x3 + 256 * (x4 + 256 * (x5 + 256 * (x6 + 256 * x7))))))))) % 128 = x0 + (x1 + (x2 + (x3 + (x4 + (x5 + (x6 + (x7 + 0))))))) := by
  rw [fin1_digit _ _ (by omega), lin1, fin2_digit _ _ _ (by omega) (by omega), lin2, fin3_digit _ _ _ _ _ (by omega) (by omega) (by omega) (by omega)]
  generalize x1 + x2 + (x3 + x4) + 256 * (x2 + x3 + (x4 + x5) + 256 * (x3 + x4 + (x5 + x6) + 256 * (x4 + x5 + (x6 + x7) + 256 * (x5 + x6 + x7 + 256 * (x6 + x7 + 256 * x7))))) = z
  generalize hq : x4 + x5 + (x6 + x7) + 256 * (x5 + x6 + x7 + 256 * (x6 + x7 + 256 * x7)) = q
  have e : q = x4 + x5 + (x6 + x7) + 256 * (x5 + x6 + x7 + 256 * (x6 + x7 + 256 * x7)) := hq.symm
  clear hq
  generalize x5 + x6 + x7 + 256 * (x6 + x7 + 256 * x7) = y at e
  omega
set_option maxRecDepth 100000 in
set_option maxHeartbeats 1600000 in
theorem ones_math (s : Nat) : fin3 (fin2 (fin1 (g3 8 s))) % 128 = pop s ∧ g3 8 s ≤ 578721382704613384 := by
  have h0 := g3_bytes 8 s 0
  have h1 := g3_bytes 8 s 1
  have h2 := g3_bytes 8 s 2
  have h3 := g3_bytes 8 s 3
  have h4 := g3_bytes 8 s 4
  have h5 := g3_bytes 8 s 5
  have h6 := g3_bytes 8 s 6
  have h7 := g3_bytes 8 s 7
  obtain ⟨hs, hl⟩ := sums_g3 8 s
  have hp : pops 8 s = pop s := rfl
  rw [hp] at hs
  rw [← hs]
  clear hs hp
  generalize g3 8 s = x at *
  obtain ⟨x0, y0, e0, l0⟩ : ∃ x0 y0, x = x0 + 256 * y0 ∧ x0 < 256 := ⟨x % 256, x / 256, by omega, by omega⟩
  obtain ⟨x1, y1, e1, l1⟩ : ∃ p q, y0 = p + 256 * q ∧ p < 256 := ⟨y0 % 256, y0 / 256, by omega, by omega⟩
  obtain ⟨x2, y2, e2, l2⟩ : ∃ p q, y1 = p + 256 * q ∧ p < 256 := ⟨y1 % 256, y1 / 256, by omega, by omega⟩
  obtain ⟨x3, y3, e3, l3⟩ : ∃ p q, y2 = p + 256 * q ∧ p < 256 := ⟨y2 % 256, y2 / 256, by omega, by omega⟩
  obtain ⟨x4, y4, e4, l4⟩ : ∃ p q, y3 = p + 256 * q ∧ p < 256 := ⟨y3 % 256, y3 / 256, by omega, by omega⟩
  obtain ⟨x5, y5, e5, l5⟩ : ∃ p q, y4 = p + 256 * q ∧ p < 256 := ⟨y4 % 256, y4 / 256, by omega, by omega⟩
  obtain ⟨x6, y6, e6, l6⟩ : ∃ p q, y5 = p + 256 * q ∧ p < 256 := ⟨y5 % 256, y5 / 256, by omega, by omega⟩
  simp only [Nat.reducePow, Nat.div_one] at h0 h1 h2 h3 h4 h5 h6 h7 hl
  have d1 : x / 256 = y0 := by omega
  have d2 : x / 65536 = y1 := by omega
  have d3 : x / 16777216 = y2 := by omega
  have d4 : x / 4294967296 = y3 := by omega
  have d5 : x / 1099511627776 = y4 := by omega
  have d6 : x / 281474976710656 = y5 := by omega
  have d7 : x / 72057594037927936 = y6 := by omega
  rw [d1] at h1; rw [d2] at h2; rw [d3] at h3; rw [d4] at h4; rw [d5] at h5; rw [d6] at h6; rw [d7] at h7
  have hy : y6 < 256 := by omega
  simp only [sums]
  have q1 : y0 / 256 = y1 := by omega
  have q2 : y1 / 256 = y2 := by omega
  have q3 : y2 / 256 = y3 := by omega
  have q4 : y3 / 256 = y4 := by omega
  have q5 : y4 / 256 = y5 := by omega
  have q6 : y5 / 256 = y6 := by omega
  rw [d1, q1, q2, q3, q4, q5, q6]
  have m0 : x % 256 = x0 := by omega
  have m1 : y0 % 256 = x1 := by omega
  have m2 : y1 % 256 = x2 := by omega
  have m3 : y2 % 256 = x3 := by omega
  have m4 : y3 % 256 = x4 := by omega
  have m5 : y4 % 256 = x5 := by omega
  have m6 : y5 % 256 = x6 := by omega
  have m7 : y6 % 256 = y6 := by omega
  rw [m0, m1, m2, m3, m4, m5, m6, m7]
  rw [m0] at h0; rw [m1] at h1; rw [m2] at h2; rw [m3] at h3; rw [m4] at h4; rw [m5] at h5; rw [m6] at h6; rw [m7] at h7
  clear d1 d2 d3 d4 d5 d6 d7 q1 q2 q3 q4 q5 q6 m0 m1 m2 m3 m4 m5 m6 m7 l0 l1 l2 l3 l4 l5 l6 hy hl
  subst e6 e5 e4 e3 e2 e1 e0
  refine ⟨?_, by omega⟩
  exact fin_digits x0 x1 x2 x3 x4 x5 x6 y6 h0 h1 h2 h3 h4 h5 h6 h7
/-- the categories of a set below k, rising -/
def bitsTo (s k : Nat) : List Nat := (List.range k).filter s.testBit
theorem bitsTo_yes {s k : Nat} (h : s.testBit k = true) : bitsTo s (k + 1) = bitsTo s k ++ [k] := by simp [bitsTo, List.range_succ, List.filter_append, h]
theorem bitsTo_no {s k : Nat} (h : s.testBit k = false) : bitsTo s (k + 1) = bitsTo s k := by simp [bitsTo, List.range_succ, List.filter_append, h]
theorem bitsTo_le (s k : Nat) : (bitsTo s k).length ≤ k := by
  have := List.length_filter_le s.testBit (List.range k)
  simpa [bitsTo] using this
theorem pop_eq (s : Nat) : pop s = (bitsTo s 64).length := rfl
end Go.Proofs.YtmlmanlcomfhbaaGreatDoor.Cats
namespace Go.Proofs.YtmlmanlcomfhbaaGreatDoor.Cats
open Go.RowKit

theorem ret_bool {a b : Bool} (h : a = b) : Ending.returned (.bool a) = .returned (.bool b) := by rw [h]

set_option maxRecDepth 100000 in
set_option maxHeartbeats 400000 in
theorem may_c (c : Int) (b : Bool) (hb : mayB c = b) (w : World) : Calls Tryz.prog 113 #[.int .i64 c] w fun e w' => e = .returned (.bool b) ∧ w = w' := by
  have HB := Lib.hid hb
  clear hb
  by_cases h0 : 0 ≤ c
  · by_cases h1 : c < 64
    · go_enter Tryz.func113, Tryz.ntmps113
      go_wp2
      go_ret
      exact ⟨ret_bool (by rw [← HB.out, mayB_yes h0 h1]), rfl⟩
    · go_enter Tryz.func113, Tryz.ntmps113
      go_wp2
      go_ret
      exact ⟨ret_bool (by rw [← HB.out, mayB_big (by omega)]), rfl⟩
  · go_enter Tryz.func113, Tryz.ntmps113
    go_wp2
    go_ret
    exact ⟨ret_bool (by rw [← HB.out, mayB_neg (by omega)]), rfl⟩

theorem ret2_u64_bool {a b : Int} {p q : Bool} (h : a = b) (h2 : p = q) : Ending.returned (.tuple #[.int .u64 a, .bool p]) = .returned (.tuple #[.int .u64 b, .bool q]) := by rw [h, h2]
theorem ret_u64 {a b : Int} (h : a = b) : Ending.returned (.int .u64 a) = .returned (.int .u64 b) := by rw [h]

set_option maxRecDepth 100000 in
set_option maxHeartbeats 400000 in
theorem has_in (s k : Nat) (hs : U s) (hk : k < 64) (w : World) : Calls Tryz.prog 96 #[.int .u64 s, .int .i64 k] w fun e w' => e = .returned (.bool (s.testBit k)) ∧ w = w' := by
  have hm := Lib.hid (mayB_yes (c := (k : Int)) (by omega) (by omega))
  go_enter Tryz.func96, Tryz.ntmps96
  go_wp2_with (go_at_call 113; refine (may_c _ true hm.out _).mono ?_; rintro e w' ⟨rfl, rfl⟩)
  go_ret
  exact ⟨ret_bool (shr_and_one_int s k hs), rfl⟩
set_option maxRecDepth 100000 in
set_option maxHeartbeats 400000 in
theorem has_out (s : Int) (c : Int) (hm : mayB c = false) (w : World) : Calls Tryz.prog 96 #[.int .u64 s, .int .i64 c] w fun e w' => e = .returned (.bool false) ∧ w = w' := by
  have HB := Lib.hid hm
  clear hm
  go_enter Tryz.func96, Tryz.ntmps96
  go_wp2_with (go_at_call 113; refine (may_c _ false HB.out _).mono ?_; rintro e w' ⟨rfl, rfl⟩)
  go_ret
  exact ⟨rfl, rfl⟩
/-- Has, in one -/
theorem has_c (s : Nat) (c : Int) (b : Bool) (hs : U s) (hb : hasB s c = b) (w : World) : Calls Tryz.prog 96 #[.int .u64 s, .int .i64 c] w fun e w' => e = .returned (.bool b) ∧ w = w' := by
  subst hb
  cases hm : mayB c
  · have e : hasB s c = false := by simp [hasB, hm]
    rw [e]
    exact has_out s c hm w
  · obtain ⟨h0, h1⟩ := of_mayB hm
    obtain ⟨k, rfl⟩ := Int.eq_ofNat_of_zero_le h0
    have e : hasB s (k : Int) = s.testBit k := by simp [hasB, hm]
    rw [e]
    exact has_in s k hs (by omega) w

theorem ret_i64 {a b : Int} (h : a = b) : Ending.returned (.int .i64 a) = .returned (.int .i64 b) := by rw [h]
def st1 (x : Int) : Int := IntKind.u64.wrap (bits .and .u64 (x / 2) 6148914691236517205 + bits .and .u64 x 6148914691236517205)
def st2 (x : Int) : Int := IntKind.u64.wrap (bits .and .u64 (x / 4) 3689348814741910323 + bits .and .u64 x 3689348814741910323)
def st3 (x : Int) : Int := bits .and .u64 (IntKind.u64.wrap (x / 16 + x)) 1085102592571150095
def st4 (x : Int) : Int := IntKind.u64.wrap (x + x / 256)
def st5 (x : Int) : Int := IntKind.u64.wrap (x + x / 65536)
def st6 (x : Int) : Int := IntKind.u64.wrap (x + x / 4294967296)
theorem and_le (a b : Nat) : a &&& b ≤ b := Nat.and_le_right
theorem st1_eq (s : Nat) (hs : U s) : st1 s = (g1 8 s : Nat) := by
  have e : ((s : Int) / 2) = ((s / 2 : Nat) : Int) := by omega
  have a1 := and_le (s / 2) 6148914691236517205
  have a2 := and_le s 6148914691236517205
  unfold U at hs
  have h1 := u64_and_nat (s / 2) 6148914691236517205 (by omega) (by omega)
  have h2 := u64_and_nat s 6148914691236517205 hs (by omega)
  have hg : g1 8 s = (s / 2 &&& 6148914691236517205) + (s &&& 6148914691236517205) := rfl
  unfold st1
  rw [e, show (6148914691236517205 : Int) = ((6148914691236517205 : Nat) : Int) from rfl, h1, h2, hg, IntKind.wrap_u64]
  omega
theorem g1_lt (s : Nat) : g1 8 s < 18446744073709551616 := by
  have a1 := and_le (s / 2) 6148914691236517205
  have a2 := and_le s 6148914691236517205
  have hg : g1 8 s = (s / 2 &&& 6148914691236517205) + (s &&& 6148914691236517205) := rfl
  omega
theorem st2_eq (s : Nat) : st2 (g1 8 s : Nat) = (g2 8 s : Nat) := by
  have hs := g1_lt s
  have e : ((g1 8 s : Nat) : Int) / 4 = ((g1 8 s / 4 : Nat) : Int) := by omega
  have a1 := and_le (g1 8 s / 4) 3689348814741910323
  have a2 := and_le (g1 8 s) 3689348814741910323
  have h1 := u64_and_nat (g1 8 s / 4) 3689348814741910323 (by omega) (by omega)
  have h2 := u64_and_nat (g1 8 s) 3689348814741910323 hs (by omega)
  have hg : g2 8 s = (g1 8 s / 4 &&& 3689348814741910323) + (g1 8 s &&& 3689348814741910323) := rfl
  unfold st2
  rw [e, show (3689348814741910323 : Int) = ((3689348814741910323 : Nat) : Int) from rfl, h1, h2, hg, IntKind.wrap_u64]
  omega
theorem g2_lt (s : Nat) : g2 8 s ≤ 7378697629483820646 := by
  have a1 := and_le (g1 8 s / 4) 3689348814741910323
  have a2 := and_le (g1 8 s) 3689348814741910323
  have hg : g2 8 s = (g1 8 s / 4 &&& 3689348814741910323) + (g1 8 s &&& 3689348814741910323) := rfl
  omega
theorem st3_eq (s : Nat) : st3 (g2 8 s : Nat) = (g3 8 s : Nat) := by
  have hs := g2_lt s
  have e : ((g2 8 s : Nat) : Int) / 16 + (g2 8 s : Nat) = ((g2 8 s / 16 + g2 8 s : Nat) : Int) := by omega
  have h1 := u64_and_nat (g2 8 s / 16 + g2 8 s) 1085102592571150095 (by omega) (by omega)
  have hg : g3 8 s = (g2 8 s / 16 + g2 8 s) &&& 1085102592571150095 := rfl
  unfold st3
  rw [e, wrap_small (by omega), show (1085102592571150095 : Int) = ((1085102592571150095 : Nat) : Int) from rfl, h1, hg]
theorem fin_eq (x : Nat) (hx : x ≤ 578721382704613384) : st6 (st5 (st4 (x : Int))) = (fin3 (fin2 (fin1 x)) : Nat) ∧ fin3 (fin2 (fin1 x)) < 9223372036854775808 := by
  have e1 : st4 (x : Int) = (fin1 x : Nat) := by
    unfold st4 fin1
    rw [IntKind.wrap_u64]; omega
  have l1 : fin1 x ≤ 600000000000000000 := by unfold fin1; omega
  have e2 : st5 (fin1 x : Nat) = (fin2 (fin1 x) : Nat) := by
    unfold st5
    rw [IntKind.wrap_u64]
    show _ = ((fin1 x + fin1 x / 65536 : Nat) : Int)
    omega
  have l2 : fin2 (fin1 x) ≤ 700000000000000000 := by show fin1 x + fin1 x / 65536 ≤ _; omega
  have e3 : st6 (fin2 (fin1 x) : Nat) = (fin3 (fin2 (fin1 x)) : Nat) := by
    unfold st6
    rw [IntKind.wrap_u64]
    show _ = ((fin2 (fin1 x) + fin2 (fin1 x) / 4294967296 : Nat) : Int)
    omega
  rw [e1, e2, e3]
  refine ⟨rfl, ?_⟩
  show fin2 (fin1 x) + fin2 (fin1 x) / 4294967296 < _
  omega
theorem ones_int (s : Nat) (hs : U s) : bits .and .i64 (wrap64 (st6 (st5 (st4 (st3 (st2 (st1 s))))))) 127 = ((pop s : Nat) : Int) := by
  obtain ⟨h, hl⟩ := ones_math s
  obtain ⟨f1, f2⟩ := fin_eq _ hl
  rw [st1_eq s hs, st2_eq, st3_eq, f1, ← h, i64_and127]
  unfold wrap64
  omega
set_option maxRecDepth 100000 in
set_option maxHeartbeats 1000000 in
theorem ones_c (s : Nat) (hs : U s) (w : World) : Calls Tryz.prog 95 #[.int .u64 s] w fun e w' => e = .returned (.int .i64 (pop s : Nat)) ∧ w = w' := by
  have HS := Lib.hid (ones_int s hs)
  clear hs
  have h0 : (0 : Int) ≤ s := by omega
  go_enter Tryz.func95, Tryz.ntmps95
  go_wp2
  go_ret
  exact ⟨ret_i64 HS.out, rfl⟩
end Go.Proofs.YtmlmanlcomfhbaaGreatDoor.Cats
namespace Go.Proofs.YtmlmanlcomfhbaaGreatDoor.Cats

/-- a number below 100 in digits -/
def digs (c : Nat) : List UInt8 := if c < 10 then [UInt8.ofNat (48 + c)] else [UInt8.ofNat (48 + c / 10), UInt8.ofNat (48 + c % 10)]
theorem digs_eq {c : Nat} (h : c < 100) : Lib.decDigits c = digs c := by
  unfold digs
  by_cases h1 : c < 10
  · rw [Lib.decDigits_one h1, if_pos h1]
  · rw [Lib.decDigits_two h1 h, if_neg h1]
theorem digs_facts : ∀ c, c < 64 → (∀ b, b ∈ digs c → b ≠ 44) ∧ digs c ≠ [] := by decide +kernel

/-- the words between commas -/
def splitC : List UInt8 → List (List UInt8)
  | [] => [[]]
  | c :: r => if c = 44 then [] :: splitC r else match splitC r with
    | [] => [[c]]
    | w :: ws => (c :: w) :: ws
theorem splitC_cons (c : UInt8) (r : List UInt8) : splitC (c :: r) = if c = 44 then [] :: splitC r else match splitC r with
    | [] => [[c]]
    | w :: ws => (c :: w) :: ws := rfl
theorem splitC_ne (l : List UInt8) : splitC l ≠ [] := by
  cases l with
  | nil => simp [splitC]
  | cons c r =>
    unfold splitC
    split
    · simp
    · split <;> simp
/-- the first word, and what stands behind its comma -/
def cutC : List UInt8 → Option (List UInt8 × List UInt8)
  | [] => none
  | c :: r => if c = 44 then some ([], r) else (cutC r).map fun p => (c :: p.1, p.2)
theorem cutC_cons (c : UInt8) (r : List UInt8) : cutC (c :: r) = if c = 44 then some ([], r) else (cutC r).map fun p => (c :: p.1, p.2) := rfl
theorem splitC_cut (l : List UInt8) : splitC l = match cutC l with
    | none => [l]
    | some (a, b) => a :: splitC b := by
  induction l with
  | nil => rfl
  | cons c r ih =>
    rw [splitC_cons, cutC_cons]
    by_cases h : c = 44
    · rw [if_pos h, if_pos h]
    · rw [if_neg h, if_neg h, ih]
      cases hc : cutC r with
      | none => rfl
      | some p => rfl
theorem splitC_none {l : List UInt8} (h : cutC l = none) : splitC l = [l] := by rw [splitC_cut, h]
theorem splitC_some {l a b : List UInt8} (h : cutC l = some (a, b)) : splitC l = a :: splitC b := by rw [splitC_cut, h]
theorem cutC_length {l a b : List UInt8} (h : cutC l = some (a, b)) : a.length + b.length + 1 = l.length := by
  induction l generalizing a b with
  | nil => simp [cutC] at h
  | cons c r ih =>
    unfold cutC at h
    by_cases hc : c = 44
    · simp only [hc, if_true, Option.some.injEq, Prod.mk.injEq] at h
      obtain ⟨rfl, rfl⟩ := h
      simp
    · simp only [hc, if_false, Option.map_eq_some_iff] at h
      obtain ⟨⟨p, q⟩, h1, h2⟩ := h
      simp only [Prod.mk.injEq] at h2
      obtain ⟨rfl, rfl⟩ := h2
      have := ih h1
      simp; omega
theorem cutC_index (l : List UInt8) : (Lib.indexByte l 44 = -1 ∧ cutC l = none) ∨ ∃ i : Nat, Lib.indexByte l 44 = i ∧ i + 1 ≤ l.length ∧ cutC l = some (l.take i, l.drop (i + 1)) := by
  induction l with
  | nil => exact .inl ⟨rfl, rfl⟩
  | cons c r ih =>
    unfold Lib.indexByte cutC
    by_cases hc : c = 44
    · subst hc
      exact .inr ⟨0, by simp, by simp, by simp⟩
    · have hb : (c == 44) = false := by simpa using hc
      rcases ih with ⟨h1, h2⟩ | ⟨i, h1, h2, h3⟩
      · exact .inl ⟨by simp [hb, h1], by simp [hc, h2]⟩
      · refine .inr ⟨i + 1, ?_, by simp; omega, by simp [hc, h3]⟩
        rw [h1]
        have : ((i : Int) == -1) = false := by simp
        simp [hb, this]

/-- words with commas between them -/
def joinC (ws : List (List UInt8)) : List UInt8 := Lib.join ws [44]
theorem joinC_nil : joinC [] = [] := rfl
theorem joinC_one (w : List UInt8) : joinC [w] = w := Lib.join_one w [44]
theorem joinC_cons (w x : List UInt8) (ws : List (List UInt8)) : joinC (w :: x :: ws) = w ++ 44 :: joinC (x :: ws) := by
  unfold joinC
  rw [Lib.join_cons, Lib.join_cons, Lib.joinTail, Lib.joinTail]
  simp
theorem joinC_cons' (w : List UInt8) (ws : List (List UInt8)) (h : ws ≠ []) : joinC (w :: ws) = w ++ 44 :: joinC ws := by
  cases ws with
  | nil => exact absurd rfl h
  | cons x r => exact joinC_cons w x r
theorem join_split (l : List UInt8) : joinC (splitC l) = l := by
  induction l with
  | nil => rfl
  | cons c r ih =>
    rw [splitC_cons]
    by_cases h : c = 44
    · rw [if_pos h, h]
      rw [joinC_cons' _ _ (splitC_ne r), ih]
      rfl
    · rw [if_neg h]
      have hne := splitC_ne r
      match hs : splitC r, hne with
      | w :: ws, _ =>
        rw [hs] at ih
        simp only
        cases ws with
        | nil =>
          rw [joinC_one] at ih ⊢
          rw [ih]
        | cons x xs =>
          rw [joinC_cons] at ih ⊢
          rw [List.cons_append, ih]
theorem split_word (w : List UInt8) (h : ∀ b, b ∈ w → b ≠ 44) : cutC w = none := by
  induction w with
  | nil => rfl
  | cons c r ih =>
    unfold cutC
    rw [if_neg (h c (by simp)), ih fun b hb => h b (by simp [hb])]
    rfl
theorem cut_word (w r : List UInt8) (h : ∀ b, b ∈ w → b ≠ 44) : cutC (w ++ 44 :: r) = some (w, r) := by
  induction w with
  | nil => simp [cutC]
  | cons c x ih =>
    rw [List.cons_append]
    unfold cutC
    rw [if_neg (h c (by simp)), ih fun b hb => h b (by simp [hb])]
    rfl
theorem split_join (ws : List (List UInt8)) (hne : ws ≠ []) (h : ∀ w ∈ ws, ∀ b, b ∈ w → b ≠ 44) : splitC (joinC ws) = ws := by
  induction ws with
  | nil => exact absurd rfl hne
  | cons w r ih =>
    cases r with
    | nil =>
      rw [joinC_one, splitC_none (split_word w (h w (by simp)))]
    | cons x xs =>
      rw [joinC_cons, splitC_some (cut_word w _ (h w (by simp))), ih (by simp) fun y hy => h y (by simp [hy])]

/-- the category that a word tells -/
def catN : List UInt8 → Option Nat
  | [a] => if 48 ≤ a ∧ a ≤ 57 then some (a.toNat - 48) else none
  | [a, b] => if a = 48 then none else if 48 ≤ a ∧ a ≤ 57 ∧ 48 ≤ b ∧ b ≤ 57 ∧ (a.toNat - 48) * 10 + (b.toNat - 48) < 64 then some ((a.toNat - 48) * 10 + (b.toNat - 48)) else none
  | _ => none
theorem catN_digs : ∀ c, c < 64 → catN (digs c) = some c := by decide +kernel
theorem u8_of (a : UInt8) (n : Nat) (h : a.toNat = n) : UInt8.ofNat n = a := by subst h; simp
theorem catN_1 (a : UInt8) : catN [a] = if 48 ≤ a ∧ a ≤ 57 then some (a.toNat - 48) else none := rfl
theorem catN_2 (a b : UInt8) : catN [a, b] = if a = 48 then none else if 48 ≤ a ∧ a ≤ 57 ∧ 48 ≤ b ∧ b ≤ 57 ∧ (a.toNat - 48) * 10 + (b.toNat - 48) < 64 then some ((a.toNat - 48) * 10 + (b.toNat - 48)) else none := rfl
theorem catN_0 : catN [] = none := rfl
theorem catN_3 (a b c : UInt8) (r : List UInt8) : catN (a :: b :: c :: r) = none := rfl
theorem catN_some {w : List UInt8} {c : Nat} (h : catN w = some c) : c < 64 ∧ w = digs c := by
  have e1 : (48 : UInt8).toNat = 48 := rfl
  have e2 : (57 : UInt8).toNat = 57 := rfl
  rcases w with _ | ⟨a, _ | ⟨b, _ | ⟨x, r⟩⟩⟩
  · cases h
  · rw [catN_1] at h
    by_cases hd : 48 ≤ a ∧ a ≤ 57
    · rw [if_pos hd] at h
      obtain ⟨h1, h2⟩ := hd
      rw [UInt8.le_iff_toNat_le] at h1 h2
      simp only [Option.some.injEq] at h
      refine ⟨by omega, ?_⟩
      unfold digs
      rw [if_pos (by omega), u8_of a _ (by omega)]
    · rw [if_neg hd] at h
      cases h
  · rw [catN_2] at h
    by_cases h0 : a = 48
    · rw [if_pos h0] at h
      cases h
    · rw [if_neg h0] at h
      by_cases hd : 48 ≤ a ∧ a ≤ 57 ∧ 48 ≤ b ∧ b ≤ 57 ∧ (a.toNat - 48) * 10 + (b.toNat - 48) < 64
      · rw [if_pos hd] at h
        obtain ⟨h1, h2, h3, h4, h5⟩ := hd
        rw [UInt8.le_iff_toNat_le] at h1 h2 h3 h4
        simp only [Option.some.injEq] at h
        have hne : a.toNat ≠ 48 := fun e => h0 (UInt8.toNat_inj.1 e)
        refine ⟨by omega, ?_⟩
        unfold digs
        rw [if_neg (by omega), u8_of a _ (by omega), u8_of b _ (by omega)]
      · rw [if_neg hd] at h
        cases h
  · rw [catN_3] at h
    cases h

/-- digits read one by one -/
def digV (acc : Nat) : List UInt8 → Option Nat
  | [] => some acc
  | b :: r => if 48 ≤ b.toNat ∧ b.toNat ≤ 57 then digV (acc * 10 + (b.toNat - 48)) r else none
theorem catN_digV {l : List UInt8} (h0 : l ≠ []) (h2 : l.length ≤ 2) (hz : l.length = 2 → l[0]? ≠ some 48) :
    catN l = match digV 0 l with
      | none => none
      | some c => if c < 64 then some c else none := by
  have e1 : (48 : UInt8).toNat = 48 := rfl
  have e2 : (57 : UInt8).toNat = 57 := rfl
  rcases l with _ | ⟨a, _ | ⟨b, _ | ⟨x, r⟩⟩⟩
  · exact absurd rfl h0
  · rw [catN_1]
    simp only [digV, UInt8.le_iff_toNat_le, e1, e2]
    by_cases hd : 48 ≤ a.toNat ∧ a.toNat ≤ 57
    · rw [if_pos hd, if_pos hd]
      simp only
      rw [if_pos (by omega)]
      simp
    · rw [if_neg hd, if_neg hd]
  · rw [catN_2]
    have ha : a ≠ 48 := fun e => hz rfl (by simp [e])
    simp only [digV, UInt8.le_iff_toNat_le, e1, e2]
    rw [if_neg ha]
    by_cases hd : 48 ≤ a.toNat ∧ a.toNat ≤ 57
    · rw [if_pos hd]
      by_cases hb : 48 ≤ b.toNat ∧ b.toNat ≤ 57
      · rw [if_pos hb]
        simp only [Nat.zero_mul, Nat.zero_add]
        by_cases hc : (a.toNat - 48) * 10 + (b.toNat - 48) < 64
        · rw [if_pos ⟨hd.1, hd.2, hb.1, hb.2, hc⟩, if_pos hc]
        · rw [if_neg fun h => hc h.2.2.2.2, if_neg hc]
      · rw [if_neg hb, if_neg fun h => hb ⟨h.2.2.1, h.2.2.2.1⟩]
    · rw [if_neg hd, if_neg fun h => hd ⟨h.1, h.2.1⟩]
  · simp at h2
theorem catN_long {l : List UInt8} (h : 2 < l.length) : catN l = none := by
  rcases l with _ | ⟨a, _ | ⟨b, _ | ⟨x, r⟩⟩⟩
  · simp at h
  · simp at h
  · simp at h
  · exact catN_3 a b x r
theorem catN_zero {l : List UInt8} (h : l.length = 2) (h0 : l[0]? = some 48) : catN l = none := by
  rcases l with _ | ⟨a, _ | ⟨b, _ | ⟨x, r⟩⟩⟩
  · simp at h
  · simp at h
  · rw [catN_2, if_pos (by simpa using h0)]
  · simp at h

/-- words read as rising categories -/
def parseWords (s next : Nat) : List (List UInt8) → Nat × Bool
  | [] => (s, true)
  | w :: r => match catN w with
    | none => (0, false)
    | some c => if c < next then (0, false) else parseWords (s ||| 2 ^ c) (c + 1) r
def parseF (t : List UInt8) : Nat × Bool := if t = [] then (0, true) else parseWords 0 0 (splitC t)
def textL (s : Nat) : List UInt8 := joinC ((bitsTo s 64).map digs)

def orAll (s : Nat) (cs : List Nat) : Nat := cs.foldl (fun s c => s ||| 2 ^ c) s
theorem testBit_orAll (cs : List Nat) (s i : Nat) : (orAll s cs).testBit i = (s.testBit i || decide (i ∈ cs)) := by
  induction cs generalizing s with
  | nil => simp [orAll]
  | cons c r ih =>
    show (orAll (s ||| 2 ^ c) r).testBit i = _
    rw [ih, Nat.testBit_or, Nat.testBit_two_pow]
    by_cases h : c = i
    · subst h; simp
    · have h' : ¬ i = c := fun e => h e.symm
      simp [h, h']
/-- rising from next on, below 64 -/
def Rising (next : Nat) : List Nat → Prop
  | [] => True
  | c :: r => next ≤ c ∧ c < 64 ∧ Rising (c + 1) r
theorem Rising.mono {a b : Nat} (hab : a ≤ b) : ∀ {cs : List Nat}, Rising b cs → Rising a cs
  | [], _ => trivial
  | _ :: _, h => ⟨by have := h.1; omega, h.2.1, h.2.2⟩
theorem Rising.mem {a : Nat} {cs : List Nat} (h : Rising a cs) : ∀ c ∈ cs, a ≤ c ∧ c < 64 := by
  induction cs generalizing a with
  | nil => intro c hc; cases hc
  | cons x r ih =>
    intro c hc
    rcases List.mem_cons.1 hc with rfl | hc
    · exact ⟨h.1, h.2.1⟩
    · have := ih h.2.2 c hc
      have := h.1
      omega
theorem Rising.ext {a b : Nat} {cs ds : List Nat} (hc : Rising a cs) (hd : Rising b ds) (h : ∀ x, x ∈ cs ↔ x ∈ ds) : cs = ds := by
  induction cs generalizing a b ds with
  | nil =>
    cases ds with
    | nil => rfl
    | cons y r => exact absurd ((h y).2 (by simp)) (by simp)
  | cons x r ih =>
    cases ds with
    | nil => exact absurd ((h x).1 (by simp)) (by simp)
    | cons y q =>
      have hx := hc.2.2.mem
      have hy := hd.2.2.mem
      have exy : x = y := by
        rcases List.mem_cons.1 ((h x).1 (by simp)) with e | e
        · exact e
        · rcases List.mem_cons.1 ((h y).2 (by simp)) with e2 | e2
          · exact e2.symm
          · have := hx y e2; have := hy x e; omega
      subst exy
      congr 1
      refine ih hc.2.2 hd.2.2 fun z => ?_
      constructor
      · intro hz
        rcases List.mem_cons.1 ((h z).1 (by simp [hz])) with e | e
        · have := hx z hz; omega
        · exact e
      · intro hz
        rcases List.mem_cons.1 ((h z).2 (by simp [hz])) with e | e
        · have := hy z hz; omega
        · exact e
theorem Rising.range_filter (p : Nat → Bool) (a n : Nat) (h : a + n ≤ 64) : Rising a ((List.range' a n).filter p) := by
  induction n generalizing a with
  | zero => trivial
  | succ n ih =>
    rw [List.range'_succ, List.filter_cons]
    have h2 := ih (a + 1) (by omega)
    split
    · exact ⟨Nat.le_refl _, by omega, h2⟩
    · exact h2.mono (by omega)
theorem rising_bits (s : Nat) : Rising 0 (bitsTo s 64) := by
  unfold bitsTo
  rw [List.range_eq_range']
  exact Rising.range_filter _ 0 64 (by omega)
theorem mem_bits (s i : Nat) : i ∈ bitsTo s 64 ↔ i < 64 ∧ s.testBit i = true := by simp [bitsTo]
theorem orAll_bits {s : Nat} (hs : U s) : orAll 0 (bitsTo s 64) = s := by
  apply Nat.eq_of_testBit_eq
  intro i
  rw [testBit_orAll, Nat.zero_testBit, Bool.false_or]
  cases h : s.testBit i
  · simp [mem_bits, h]
  · simp [mem_bits, h, testBit_lt hs h]
theorem bits_orAll {cs : List Nat} (h : Rising 0 cs) : bitsTo (orAll 0 cs) 64 = cs := by
  refine (rising_bits _).ext h fun x => ?_
  rw [mem_bits, testBit_orAll, Nat.zero_testBit, Bool.false_or, decide_eq_true_eq]
  exact ⟨fun h => h.2, fun hx => ⟨(h.mem x hx).2, hx⟩⟩
theorem U_orAll {cs : List Nat} {s a : Nat} (hs : U s) (h : Rising a cs) : U (orAll s cs) := by
  induction cs generalizing s a with
  | nil => exact hs
  | cons c r ih => exact ih (U_or hs (U_pow h.2.1)) h.2.2

theorem parse_rising {cs : List Nat} {s next : Nat} (h : Rising next cs) : parseWords s next (cs.map digs) = (orAll s cs, true) := by
  induction cs generalizing s next with
  | nil => rfl
  | cons c r ih =>
    rw [List.map_cons]
    unfold parseWords
    rw [catN_digs c h.2.1]
    simp only
    rw [if_neg (by have := h.1; omega), ih h.2.2]
    rfl
theorem parse_some {ws : List (List UInt8)} {s next S : Nat} (h : parseWords s next ws = (S, true)) : ∃ cs, Rising next cs ∧ ws = cs.map digs ∧ S = orAll s cs := by
  induction ws generalizing s next with
  | nil =>
    simp only [parseWords, Prod.mk.injEq] at h
    exact ⟨[], trivial, rfl, h.1.symm⟩
  | cons w r ih =>
    unfold parseWords at h
    cases hc : catN w with
    | none => simp [hc] at h
    | some c =>
      simp only [hc] at h
      by_cases hlt : c < next
      · simp [hlt] at h
      · rw [if_neg hlt] at h
        obtain ⟨cs, h1, h2, h3⟩ := ih h
        obtain ⟨h4, h5⟩ := catN_some hc
        exact ⟨c :: cs, ⟨by omega, h4, h1⟩, by simp [h2, h5], h3⟩
theorem parse_none {ws : List (List UInt8)} {s next S : Nat} (h : parseWords s next ws = (S, false)) : S = 0 := by
  induction ws generalizing s next with
  | nil => simp [parseWords] at h
  | cons w r ih =>
    unfold parseWords at h
    cases hc : catN w with
    | none => simp [hc] at h; exact h.symm
    | some c =>
      simp only [hc] at h
      by_cases hlt : c < next
      · simp [hlt] at h; exact h.symm
      · rw [if_neg hlt] at h
        exact ih h

theorem digs_words {cs : List Nat} {a : Nat} (h : Rising a cs) : ∀ w ∈ cs.map digs, ∀ b, b ∈ w → b ≠ 44 := by
  intro w hw
  obtain ⟨c, hc, rfl⟩ := List.mem_map.1 hw
  exact (digs_facts c (h.mem c hc).2).1
theorem textL_ne {s : Nat} (h : bitsTo s 64 ≠ []) : textL s ≠ [] := by
  unfold textL
  match hb : bitsTo s 64, h with
  | c :: r, _ =>
    have hc : c < 64 := ((rising_bits s).mem c (by rw [hb]; simp)).2
    have hd := (digs_facts c hc).2
    rw [List.map_cons]
    cases hr : r.map digs with
    | nil => rw [joinC_one]; exact hd
    | cons x xs => rw [joinC_cons]; simp
/-- what is told is read back -/
theorem parse_text {s : Nat} (hs : U s) : parseF (textL s) = (s, true) := by
  unfold parseF
  by_cases hb : bitsTo s 64 = []
  · have ht : textL s = [] := by unfold textL; rw [hb]; rfl
    have h0 := orAll_bits hs
    rw [hb] at h0
    rw [if_pos ht]
    rw [← h0]
    rfl
  · rw [if_neg (textL_ne hb)]
    unfold textL
    rw [split_join _ (by simpa using hb) (digs_words (rising_bits s)), parse_rising (rising_bits s), orAll_bits hs]
/-- only what is told is read -/
theorem text_parse {t : List UInt8} {S : Nat} (h : parseF t = (S, true)) : textL S = t ∧ U S := by
  unfold parseF at h
  split at h
  · rename_i ht
    simp only [Prod.mk.injEq] at h
    obtain ⟨rfl, _⟩ := h
    rw [ht]
    refine ⟨?_, U_zero⟩
    have : bitsTo 0 64 = [] := by simp [bitsTo]
    unfold textL
    rw [this]
    rfl
  · obtain ⟨cs, h1, h2, h3⟩ := parse_some h
    subst h3
    refine ⟨?_, U_orAll U_zero h1⟩
    unfold textL
    rw [bits_orAll h1, ← h2, join_split]
theorem parse_no {t : List UInt8} {S : Nat} (h : parseF t = (S, false)) : S = 0 := by
  unfold parseF at h
  split at h
  · simp at h
  · exact parse_none h
theorem parse_u (t : List UInt8) : U (parseF t).1 := by
  cases h : parseF t with
  | mk S b =>
    cases b
    · rw [parse_no h]; exact U_zero
    · exact (text_parse h).2
/-- read is just what is told -/
theorem parse_iff {t : List UInt8} {s : Nat} (hs : U s) (h : textL s = t) : parseF t = (s, true) := by rw [← h]; exact parse_text hs
end Go.Proofs.YtmlmanlcomfhbaaGreatDoor.Cats
