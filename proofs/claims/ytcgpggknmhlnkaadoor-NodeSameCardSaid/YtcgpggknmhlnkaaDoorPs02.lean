/- A region that draws its order, walked once in the order of the text, though some of its operations make memory: whatever the program. What an operation that makes memory yields is said by a property of its value and its world that lasts while memory grows. -/
import Derived.StillTail
import Derived.Lib.QuietBelow
import Derived.Deep.QuietTactic
import Derived.BigQuiet
namespace Go.Proofs.YtcgpggknmhlnkaaDoor.Reg
open Go Go.RowKit Go.Sort
/-- the worlds in which what was there when the region began is unchanged -/
def Cls (w0 w : World) : Prop := ∃ p : Regrown, w = grow (redrawn w0 p.d) p.os
theorem Cls.below {w0 w : World} (h : Cls w0 w) : Below w0.heap.size w0 w := by
  obtain ⟨p, rfl⟩ := h
  exact below_regrown _ _ _
theorem Cls.of {w0 w : World} (h : Below w0.heap.size w0 w) : Cls w0 w := regrown_of_below h
theorem Cls.grown {w0 w w' : World} (h : Cls w0 w) (hb : Below w.heap.size w w') : Cls w0 w' := Cls.of (h.below.trans (hb.mono h.below.size))

/-- what is known of the values that operations yielded, by the operations' numbers -/
structure Fct where
  f : Nat → World → Prop
  /-- which operation made which block -/
  g : Nat → Nat → Prop
instance : CoeFun Fct (fun _ => Nat → World → Prop) := ⟨Fct.f⟩
/-- it held once, and since then memory has only grown -/
def Up (q : World → Prop) (w : World) : Prop := ∃ w1, q w1 ∧ Below w1.heap.size w1 w
theorem Up.here {q : World → Prop} {w : World} (h : q w) : Up q w := ⟨w, h, Below.refl _ _⟩
theorem Up.grown {q : World → Prop} {w w' : World} (h : Up q w) (hb : Below w.heap.size w w') : Up q w' := by
  obtain ⟨w1, h1, h2⟩ := h
  exact ⟨w1, h1, h2.trans (hb.mono h2.size)⟩
def Fct.put (F : Fct) (k : Nat) (q : World → Prop) (B : Option Nat) : Fct := ⟨fun m w => F m w ∧ (m = k → Up q w), fun m c => F.g m c ∨ (m = k ∧ B = some c)⟩
theorem Fct.put_at {F : Fct} {k : Nat} {q : World → Prop} {B : Option Nat} {w : World} (h : (F.put k q B) k w) : Up q w := h.2 rfl
theorem Fct.put_old {F : Fct} {k : Nat} {q : World → Prop} {B : Option Nat} {m : Nat} {w : World} (h : (F.put k q B) m w) : F m w := h.1
def Fct.Lasts (F : Fct) : Prop := ∀ m w w', F m w → Below w.heap.size w w' → F m w'
theorem Fct.Lasts.put {F : Fct} (h : F.Lasts) (k : Nat) (q : World → Prop) (B : Option Nat) : (F.put k q B).Lasts := fun m w w' ⟨h1, h2⟩ hb => ⟨h m w w' h1 hb, fun e => (h2 e).grown hb⟩
theorem Fct.put_comm (F : Fct) (i j : Nat) (p q : World → Prop) (B C : Option Nat) : (F.put i p B).put j q C = (F.put j q C).put i p B := by
  unfold Fct.put
  congr 1
  · funext m w
    exact propext ⟨fun ⟨⟨a, b⟩, c⟩ => ⟨⟨a, c⟩, b⟩, fun ⟨⟨a, b⟩, c⟩ => ⟨⟨a, c⟩, b⟩⟩
  · funext m c
    exact propext ⟨fun h => h.elim (fun h => h.elim (fun h => .inl (.inl h)) .inr) (fun h => .inl (.inr h)), fun h => h.elim (fun h => h.elim (fun h => .inl (.inl h)) .inr) (fun h => .inl (.inr h))⟩
/-- what was made lies there, and no two operations made one block -/
def Fct.Apart (F : Fct) : Prop := ∀ m c n d, F.g m c → F.g n d → m ≠ n → c ≠ d
def Fct.Good (F : Fct) (w : World) : Prop := F.Lasts ∧ F.Apart ∧ (∀ m, F m w) ∧ ∀ m c, F.g m c → c < w.heap.size
theorem Fct.Good.grown {F : Fct} {w w' : World} (h : F.Good w) (hb : Below w.heap.size w w') : F.Good w' :=
  ⟨h.1, h.2.1, fun m => h.1 m w w' (h.2.2.1 m) hb, fun m c hc => Nat.lt_of_lt_of_le (h.2.2.2 m c hc) hb.size⟩
/-- the block of new memory -/
def blockOf : Value → Option Nat
  | .pointer (some a) => some a.block
  | .slice (some a) _ _ => some a.block
  | _ => none
/-- .. of which it is said that it is new -/
def fresh (nu : Bool) (w : World) (t : Value → World → Prop) (v : Value) (w' : World) : Prop := t v w' ∧ (nu = true → ∃ b, blockOf v = some b ∧ w.heap.size ≤ b ∧ b < w'.heap.size)
def newB (nu : Bool) (v : Value) : Option Nat := if nu = true then blockOf v else none
theorem Fct.Good.made {F : Fct} {w w' : World} {k : Nat} {nu : Bool} {t : Value → World → Prop} {v : Value} (h : F.Good w) (hb : Below w.heap.size w w') (ht : fresh nu w t v w') : (F.put k (t v) (newB nu v)).Good w' := by
  have hg := h.grown hb
  have hn : ∀ c, newB nu v = some c → w.heap.size ≤ c ∧ c < w'.heap.size := by
    intro c hc
    unfold newB at hc
    split at hc
    · rename_i hnu
      obtain ⟨b, h1, h2, h3⟩ := ht.2 hnu
      rw [h1] at hc
      cases hc
      exact ⟨h2, h3⟩
    · cases hc
  refine ⟨h.1.put _ _ _, ?_, fun m => ⟨hg.2.2.1 m, fun _ => Up.here ht.1⟩, ?_⟩
  · intro m c n d h1 h2 hmn
    rcases h1 with h1 | ⟨rfl, h1⟩ <;> rcases h2 with h2 | ⟨rfl, h2⟩
    · exact h.2.1 m c n d h1 h2 hmn
    · have := h.2.2.2 m c h1
      have := (hn d h2).1
      omega
    · have := h.2.2.2 n d h2
      have := (hn c h1).1
      omega
    · exact absurd rfl hmn
  · intro m c h1
    rcases h1 with h1 | ⟨_, h1⟩
    · exact hg.2.2.2 m c h1
    · exact (hn c h1).2
/-- there is a world in which all of it holds -/
def Cons (w0 : World) (F : Fct) : Prop := ∃ w, Cls w0 w ∧ F.Good w
theorem Cons.drop {w0 : World} {F : Fct} {k : Nat} {q : World → Prop} {B : Option Nat} (hl : F.Lasts) (h : Cons w0 (F.put k q B)) : Cons w0 F := by
  obtain ⟨w, h1, _, h3, h4, h5⟩ := h
  exact ⟨w, h1, hl, fun m c n d a b => h3 m c n d (.inl a) (.inl b), fun m => (h4 m).1, fun m c a => h5 m c (.inl a)⟩
theorem Cons.lasts {w0 : World} {F : Fct} (h : Cons w0 F) : F.Lasts := by
  obtain ⟨_, _, h, _⟩ := h
  exact h
theorem Cons.fact {w0 : World} {F : Fct} {k : Nat} {q : World → Prop} {B : Option Nat} (h : Cons w0 (F.put k q B)) : ∃ w, q w := by
  obtain ⟨w, _, _, _, h2, _⟩ := h
  obtain ⟨w1, h3, _⟩ := (h2 k).2 rfl
  exact ⟨w1, h3⟩

section
variable {P : Program} {ops : Array Oper} {md : Region.Mode} {w0 : World} {T : Tmp → Option (Value → World → Prop)} {N : Tmp → Bool}
/-- what is known of the values that an operation looks at -/
def looks (ops : Array Oper) (F : Fct) (o : Oper) (w : World) : Prop := ∀ k ok d, ops[k]? = some ok → ok.dst = some d → d ∈ o.looksAt ops → F k w
def variesUpon (P : Program) (w : World) (t : Value → World → Prop) : Result Next → Prop
  | .ok (.value u) w' => Below w.heap.size w w' ∧ t u w'
  | .ok (.enter f args) w' => w' = w ∧ Calls P f args w (fun e w'' => ∃ v, e = .returned v ∧ Below w.heap.size w w'' ∧ t v w'')
  | _ => False
def varies (P : Program) (ops : Array Oper) (w0 : World) (o : Oper) (a : Act) (F : Fct) (nu : Bool) (t : Value → World → Prop) : Prop :=
  ∀ w, Cls w0 w → looks ops F o w → variesUpon P w (fresh nu w t) ((execOp a.eval o).run P w)
/-- an operation that calls nothing -/
def calm (o : Oper) : Bool :=
  match o.op with
  | .move _ | .assign _ | .pick .. | .build .. | .load .. | .binOp .. | .unOp .. | .convert .. | .fieldAddr .. | .field .. | .indexAddr .. | .index .. | .extract .. | .slice .. | .makeInterface .. => true
  | .call c => match c.callee with
    | .builtin .len | .builtin .cap | .builtin .min | .builtin .max => true
    | _ => false
  | _ => false
theorem not_enter {α : Type} (s : Sem α) (g : α → Value) (w : World) (f : FuncId) (args : Array Value) (w' : World) : (do let x ← s; pure (Next.value (g x)) : Sem Next).run P w ≠ .ok (.enter f args) w' := by
  rw [Sem.run_bind]
  cases s.run P w with
  | ok v w1 => intro h; simp [Result.andThen] at h
  | halt x w1 => intro h; simp [Result.andThen] at h
theorem calm_spec {o : Oper} (h : calm o = true) (a : Act) (w : World) (f : FuncId) (args : Array Value) (w' : World) : (execOp a.eval o).run P w ≠ .ok (.enter f args) w' := by
  obtain ⟨dst, op, ty, pos, aft, g⟩ := o
  unfold calm at h
  cases op <;> simp only [Bool.false_eq_true] at h <;> unfold execOp <;> simp only []
  case pick => exact not_enter _ (fun x => if x = true then _ else _) _ _ _ _
  case call c =>
    obtain ⟨cal, ar, at'⟩ := c
    cases cal with
    | builtin b =>
      cases b <;> simp only [Bool.false_eq_true] at h <;> exact not_enter _ id _ _ _ _
    | value f => simp at h
    | invoke r n => simp at h
  all_goals first
    | exact not_enter _ id _ _ _ _
    | (intro hh; simp at hh; done)

/-- one operation: where it is wanted, either it calls nothing and yields one value in every world of the class; or what it yields has the property that the table names -/
def opM (P : Program) (ops : Array Oper) (w0 : World) (T : Tmp → Option (Value → World → Prop)) (N : Tmp → Bool) (o : Oper) (k : Nat) (K : Act → Fct → Prop) (a : Act) (F : Fct) : Prop :=
  if Region.wanted o (yielded ops a.tmps) then
    match o.dst.bind T with
    | none => calm o = true ∧ ∃ v, (∀ w, Cls w0 w → o.quietAt P a (Cls w0) w v) ∧ K (a.put o.dst v) F
    | some t => varies P ops w0 o a F (o.dst.any N) t ∧ ∀ v, Cons w0 (F.put k (t v) (newB (o.dst.any N) v)) → K (a.put o.dst v) (F.put k (t v) (newB (o.dst.any N) v))
  else K (a.put o.dst undef) F
theorem opM_mono {o : Oper} {k : Nat} {K K' : Act → Fct → Prop} {a : Act} {F : Fct} (h : ∀ a F, K a F → K' a F) (hh : opM P ops w0 T N o k K a F) : opM P ops w0 T N o k K' a F := by
  unfold opM at *
  split
  · rename_i hw
    rw [if_pos hw] at hh
    split
    · rename_i ht
      simp only [ht] at hh
      obtain ⟨h1, v, h2, h3⟩ := hh
      exact ⟨h1, v, h2, h _ _ h3⟩
    · rename_i t ht
      simp only [ht] at hh
      exact ⟨hh.1, fun v hv => h _ _ (hh.2 v hv)⟩
  · rename_i hw
    rw [if_neg hw] at hh
    exact h _ _ hh
theorem opM_cons {o : Oper} {k : Nat} {K : Act → Fct → Prop} {a : Act} {F : Fct} (hc : Cons w0 F) (hh : opM P ops w0 T N o k K a F) : opM P ops w0 T N o k (fun a F => Cons w0 F ∧ K a F) a F := by
  unfold opM at *
  split
  · rename_i hw
    rw [if_pos hw] at hh
    split
    · rename_i ht
      simp only [ht] at hh
      obtain ⟨h1, v, h2, h3⟩ := hh
      exact ⟨h1, v, h2, hc, h3⟩
    · rename_i t ht
      simp only [ht] at hh
      exact ⟨hh.1, fun v hv => ⟨hv, hh.2 v hv⟩⟩
  · rename_i hw
    rw [if_neg hw] at hh
    exact ⟨hc, hh⟩
/-- a call that has the property yields some value that has it -/
theorem calls_some {f : FuncId} {args : Array Value} {w : World} {R : Ending → World → Prop} (h : Calls P f args w R) : ∃ e w', R e w' := by
  obtain ⟨e, w', _, hr, _⟩ := h []
  exact ⟨e, w', hr⟩
theorem varies_cons {o : Oper} {k : Nat} {a : Act} {F : Fct} {nu : Bool} {t : Value → World → Prop} (hc : Cons w0 F) (h : varies P ops w0 o a F nu t) : ∃ v, Cons w0 (F.put k (t v) (newB nu v)) := by
  obtain ⟨w, h1, h2⟩ := hc
  have h3 := h w h1 fun m _ _ _ _ _ => h2.2.2.1 m
  generalize (execOp a.eval o).run P w = r at h3
  have fin : ∀ v w', Below w.heap.size w w' → fresh nu w t v w' → ∃ v, Cons w0 (F.put k (t v) (newB nu v)) := fun v w' hb ht => ⟨v, w', h1.grown hb, h2.made hb ht⟩
  cases r with
  | ok n w' =>
    cases n <;> simp only [variesUpon] at h3
    case value u => exact fin u w' h3.1 h3.2
    case enter f args =>
      obtain ⟨rfl, hcall⟩ := h3
      obtain ⟨e, w'', v, _, hb, ht⟩ := calls_some hcall
      exact fin v w'' hb ht
  | halt x w' => simp only [variesUpon] at h3
theorem quietAt_unique {o : Oper} {a : Act} {C : World → Prop} {w : World} {v v' : Value} (hcalm : calm o = true) (h : o.quietAt P a C w v) (h' : o.quietAt P a C w v') : v = v' := by
  unfold Oper.quietAt at h h'
  have hne := calm_spec (P := P) hcalm a w
  generalize (execOp a.eval o).run P w = r at h h' hne
  cases r with
  | ok n w' =>
    cases n <;> simp only [Oper.quietUpon] at h h'
    case value u => rw [← h.2, ← h'.2]
    case skip => rw [h.2, h'.2]
    case enter f args => exact absurd rfl (hne f args w')
  | halt x w' => simp only [Oper.quietUpon] at h
theorem looks_put {o : Oper} {F : Fct} {i : Nat} {oi : Oper} {q : World → Prop} {B : Option Nat} {w : World} (hi : ops[i]? = some oi) (hd : ∀ d, oi.dst = some d → d ∉ o.looksAt ops) : looks ops (F.put i q B) o w ↔ looks ops F o w := by
  refine ⟨fun h k ok d hk hdst hl => (h k ok d hk hdst hl).1, fun h k ok d hk hdst hl => ⟨h k ok d hk hdst hl, fun e => ?_⟩⟩
  subst e
  rw [hi] at hk
  obtain rfl := Option.some.inj hk
  exact absurd hl (hd d hdst)
theorem varies_put {oi oj : Oper} {i : Nat} {a : Act} {F : Fct} {q : World → Prop} {B : Option Nat} {v : Value} {nu : Bool} {t : Value → World → Prop} (hi : ops[i]? = some oi) (hs : ∀ cs b, oj.op ≠ .select cs b) (hd : ∀ d, oi.dst = some d → d ∉ oj.looksAt ops) :
    varies P ops w0 oj (a.put oi.dst v) (F.put i q B) nu t ↔ varies P ops w0 oj a F nu t := by
  unfold varies
  rw [execOp_put oj hs a oi.dst v hd]
  exact ⟨fun h w hw hl => h w hw ((looks_put hi hd).2 hl), fun h w hw hl => h w hw ((looks_put hi hd).1 hl)⟩
theorem varies_put0 {oi oj : Oper} {a : Act} {F : Fct} {v : Value} {nu : Bool} {t : Value → World → Prop} (hs : ∀ cs b, oj.op ≠ .select cs b) (hd : ∀ d, oi.dst = some d → d ∉ oj.looksAt ops) :
    varies P ops w0 oj (a.put oi.dst v) F nu t ↔ varies P ops w0 oj a F nu t := by
  unfold varies
  rw [execOp_put oj hs a oi.dst v hd]
theorem quiet_put {oi oj : Oper} {a : Act} {C : World → Prop} {w : World} {v u : Value} (hs : ∀ cs b, oj.op ≠ .select cs b) (hd : ∀ d, oi.dst = some d → d ∉ oj.looksAt ops) :
    oj.quietAt P (a.put oi.dst v) C w u ↔ oj.quietAt P a C w u := by
  unfold Oper.quietAt
  rw [execOp_put oj hs a oi.dst v hd]
/-- two operations of which neither looks at the other one's value may change places -/
theorem opM_swap {i j : Nat} {oi oj : Oper} (hi : ops[i]? = some oi) (hj : ops[j]? = some oj) (hap : oi.apart ops oj = true) (hsi : ∀ cs b, oi.op ≠ .select cs b) (hsj : ∀ cs b, oj.op ≠ .select cs b)
    {K : Act → Fct → Prop} {a : Act} {F : Fct} (hc : Cons w0 F) (h : opM P ops w0 T N oi i (opM P ops w0 T N oj j K) a F) : opM P ops w0 T N oj j (opM P ops w0 T N oi i K) a F := by
  obtain ⟨E1, E2, E3⟩ := Oper.apart_spec hap
  have Wj : ∀ v, Region.wanted oj (yielded ops (a.put oi.dst v).tmps) = Region.wanted oj (yielded ops a.tmps) := fun v => wanted_put oj a oi.dst v E1
  have Wi : ∀ v, Region.wanted oi (yielded ops (a.put oj.dst v).tmps) = Region.wanted oi (yielded ops a.tmps) := fun v => wanted_put oi a oj.dst v E3
  have PC : ∀ v u, (a.put oi.dst v).put oj.dst u = (a.put oj.dst u).put oi.dst v := fun v u => Act.put_comm a v u E2
  have VJ0 : ∀ v nu t, varies P ops w0 oj (a.put oi.dst v) F nu t ↔ varies P ops w0 oj a F nu t := fun v nu t => varies_put0 hsj E1
  have VI0 : ∀ v nu t, varies P ops w0 oi (a.put oj.dst v) F nu t ↔ varies P ops w0 oi a F nu t := fun v nu t => varies_put0 hsi E3
  have VJ : ∀ v nu t q B, varies P ops w0 oj (a.put oi.dst v) (F.put i q B) nu t ↔ varies P ops w0 oj a F nu t := fun v nu t q B => varies_put hi hsj E1
  have VI : ∀ v nu t q B, varies P ops w0 oi (a.put oj.dst v) (F.put j q B) nu t ↔ varies P ops w0 oi a F nu t := fun v nu t q B => varies_put hj hsi E3
  have QJ : ∀ v w u, oj.quietAt P (a.put oi.dst v) (Cls w0) w u ↔ oj.quietAt P a (Cls w0) w u := fun v w u => quiet_put hsj E1
  have QI : ∀ v w u, oi.quietAt P (a.put oj.dst v) (Cls w0) w u ↔ oi.quietAt P a (Cls w0) w u := fun v w u => quiet_put hsi E3
  unfold opM at *
  simp only [Wi, Wj, PC, VJ0, VI0, VJ, VI, QJ, QI] at *
  cases hwi : Region.wanted oi (yielded ops a.tmps) <;> cases hwj : Region.wanted oj (yielded ops a.tmps) <;> simp only [hwi, hwj, if_true, if_false, Bool.false_eq_true] at h ⊢
  · exact h
  · cases htj : oj.dst.bind T with
    | none => simp only [htj] at h ⊢; exact h
    | some t => simp only [htj] at h ⊢; exact h
  · cases hti : oi.dst.bind T with
    | none => simp only [hti] at h ⊢; exact h
    | some t => simp only [hti] at h ⊢; exact h
  · cases hti : oi.dst.bind T with
    | none =>
      simp only [hti] at h ⊢
      obtain ⟨h1, v, h2, h3⟩ := h
      cases htj : oj.dst.bind T with
      | none =>
        simp only [htj] at h3 ⊢
        obtain ⟨h4, u, h5, h6⟩ := h3
        exact ⟨h4, u, h5, h1, v, h2, h6⟩
      | some t =>
        simp only [htj] at h3 ⊢
        exact ⟨h3.1, fun u hu => ⟨h1, v, h2, h3.2 u hu⟩⟩
    | some s =>
      simp only [hti] at h ⊢
      obtain ⟨h1, h2⟩ := h
      obtain ⟨v0, hv0⟩ := varies_cons (k := i) hc h1
      cases htj : oj.dst.bind T with
      | none =>
        simp only [htj] at h2 ⊢
        obtain ⟨h3, u, h4, _⟩ := h2 v0 hv0
        refine ⟨h3, u, h4, h1, fun v hv => ?_⟩
        obtain ⟨_, u', h4', h5'⟩ := h2 v hv
        obtain ⟨w, hw, _⟩ := hc
        obtain rfl := quietAt_unique h3 (h4 w hw) (h4' w hw)
        exact h5'
      | some t =>
        simp only [htj] at h2 ⊢
        refine ⟨(h2 v0 hv0).1, fun u hu => ⟨h1, fun v hv => ?_⟩⟩
        rw [Fct.put_comm] at hv ⊢
        exact (h2 v (hv.drop (hc.lasts.put _ _ _))).2 u hv
/-- the operation of this number -/
def opAt (P : Program) (ops : Array Oper) (w0 : World) (T : Tmp → Option (Value → World → Prop)) (N : Tmp → Bool) (i : Nat) (K : Act → Fct → Prop) (a : Act) (F : Fct) : Prop :=
  match ops[i]? with
  | none => K a F
  | some o => opM P ops w0 T N o i K a F
theorem opAt_some {i : Nat} {o : Oper} {K : Act → Fct → Prop} {a : Act} {F : Fct} (hi : ops[i]? = some o) : opAt P ops w0 T N i K a F = opM P ops w0 T N o i K a F := by
  unfold opAt
  simp only [hi]
theorem opM_some {o : Oper} {k : Nat} {K : Act → Fct → Prop} {a : Act} {F : Fct} (hc : Cons w0 F) (h : opM P ops w0 T N o k K a F) : ∃ a' F', K a' F' := by
  unfold opM at h
  split at h
  · split at h
    · obtain ⟨_, v, _, h3⟩ := h; exact ⟨_, _, h3⟩
    · obtain ⟨v, hv⟩ := varies_cons (k := k) hc h.1
      exact ⟨_, _, h.2 v hv⟩
  · exact ⟨_, _, h⟩
theorem wpOp_of_opAt {i : Nat} {K : Act → Fct → Prop} {K' : Act → World → Prop} {Q' : Exit → Act → World → Prop} {a : Act} {F : Fct} {w : World} (hw : Cls w0 w) (hF : F.Good w)
    (h : ∀ a F w', Cls w0 w' → F.Good w' → K a F → K' a w') (hh : opAt P ops w0 T N i K a F) : wpOp P ops Q' i K' a w := by
  unfold opAt at hh
  unfold wpOp
  split
  · rename_i ho; simp only [ho] at hh; exact h _ _ _ hw hF hh
  · rename_i o ho
    simp only [ho, opM] at hh
    split
    · rename_i hwant
      rw [if_pos hwant] at hh
      refine .inl ?_
      unfold Oper.wp
      cases ht : o.dst.bind T with
      | none =>
        simp only [ht] at hh
        obtain ⟨hcalm, v, hq, hK⟩ := hh
        have h3 := hq w hw
        unfold Oper.quietAt at h3
        have hne := calm_spec (P := P) hcalm a w
        generalize (execOp a.eval o).run P w = r at h3 hne
        cases r with
        | ok n w' =>
          cases n <;> simp only [Oper.quietUpon] at h3 <;> simp only [Oper.upon]
          case value u => obtain ⟨e1, e2⟩ := h3; rw [e1, e2]; exact h _ _ _ hw hF hK
          case skip => obtain ⟨e1, e2⟩ := h3; rw [e1, ← e2]; exact h _ _ _ hw hF hK
          case enter f args => exact absurd rfl (hne f args w')
        | halt x w' => simp only [Oper.quietUpon] at h3
      | some t =>
        simp only [ht] at hh
        obtain ⟨hv, hK⟩ := hh
        have h3 := hv w hw fun m _ _ _ _ _ => hF.2.2.1 m
        have fin : ∀ v w', Below w.heap.size w w' → fresh (o.dst.any N) w t v w' → K' (a.put o.dst v) w' := fun v w' hb htv =>
          have hm := hF.made (k := i) hb htv
          h _ _ _ (hw.grown hb) hm (hK v ⟨w', hw.grown hb, hm⟩)
        generalize (execOp a.eval o).run P w = r at h3
        cases r with
        | ok n w' =>
          cases n <;> simp only [variesUpon] at h3 <;> simp only [Oper.upon]
          case value u => exact fin u w' h3.1 h3.2
          case enter f args =>
            obtain ⟨e1, hcall⟩ := h3
            rw [e1]
            exact hcall.mono fun e w'' ⟨v, he, hb, htv⟩ => by subst he; exact fin v w'' hb htv
        | halt x w' => simp only [variesUpon] at h3
    · rename_i hwant
      rw [if_neg hwant] at hh
      exact h _ _ _ hw hF hh

def wpAnyM (P : Program) (md : Region.Mode) (ops : Array Oper) (w0 : World) (T : Tmp → Option (Value → World → Prop)) (N : Tmp → Bool) (n : Nat) (L : Array Bool → Act → Fct → Prop) : Nat → Array Bool → Act → Fct → Prop
  | 0, listed, a, F => L listed a F
  | f + 1, listed, a, F =>
    Region.ready md ops listed ≠ [] ∧ ∀ i ∈ Region.ready md ops listed, i < n ∧ opAt P ops w0 T N i (wpAnyM P md ops w0 T N n L f (listed.setIfInBounds i true)) a F
theorem wpAny_of_headM {n g : Nat} {L : Array Bool → Act → Fct → Prop} {Q' : Exit → Act → World → Prop} (hL : ∀ listed a F w, Cls w0 w → F.Good w → L listed a F → wpAny P md ops Q' g listed a w) :
    ∀ (f : Nat) (listed : Array Bool) (a : Act) (F : Fct) (w : World), Cls w0 w → F.Good w → wpAnyM P md ops w0 T N n L f listed a F → wpAny P md ops Q' (f + g) listed a w
  | 0, listed, a, F, w, hw, hF, h => by rw [Nat.zero_add]; exact hL _ _ _ _ hw hF h
  | f + 1, listed, a, F, w, hw, hF, h => by
    rw [show f + 1 + g = (f + g) + 1 by omega]
    exact ⟨fun h0 => absurd h0 h.1, fun i hi => wpOp_of_opAt hw hF (fun a' F' w' hw' hF' h' => wpAny_of_headM hL f _ a' F' w' hw' hF' h') (h.2 i hi).2⟩

theorem wpAnyM_first {n i : Nat} {oi : Oper} {L : Array Bool → Act → Fct → Prop} (hi : ops[i]? = some oi) (hsel : ∀ (j : Nat) (o : Oper) cs b, ops[j]? = some o → o.op ≠ .select cs b)
    (hwait : ∀ listed, HeadInv md ops n listed → ∀ i, i < n → listed.getD i true = false → ∀ t, n ≤ t → t ∉ Region.ready md ops listed) (hin : i < n)
    (hdone : ∀ listed a F, L listed a F → ∀ j ∈ Region.ready md ops listed, n ≤ j) :
    ∀ (f : Nat) (listed : Array Bool) (a : Act) (F : Fct), HeadInv md ops n listed →
      (∀ j oj, ops[j]? = some oj → j ≠ i → listed.getD j true = false → (∀ e ∈ oj.after, Region.binds md e = true → e.on ≠ i) → oi.apart ops oj = true) →
      i ∈ Region.ready md ops listed → Cons w0 F →
      opM P ops w0 T N oi i (wpAnyM P md ops w0 T N n L f (listed.setIfInBounds i true)) a F → wpAnyM P md ops w0 T N n L (f + 1) listed a F := by
  intro f
  induction f with
  | zero =>
    intro listed a F inv _ hr hc H
    have hun := (mem_ready.1 hr).1
    refine ⟨fun h => (by rw [h] at hr; cases hr), fun j hj => ?_⟩
    have hjn : j < n := by
      rcases Nat.lt_or_ge j n with h | h
      · exact h
      · exact absurd hj (hwait _ inv i hin hun j h)
    refine ⟨hjn, ?_⟩
    by_cases hji : j = i
    · subst hji; rw [opAt_some hi]; exact H
    · obtain ⟨a', F', hL⟩ := opM_some hc H
      have := hdone _ _ _ hL j (ready_mono hj hji)
      omega
  | succ f ih =>
    intro listed a F inv hfree hr hc H
    have hun := (mem_ready.1 hr).1
    refine ⟨fun h => (by rw [h] at hr; cases hr), fun j hj => ?_⟩
    have hjn : j < n := by
      rcases Nat.lt_or_ge j n with h | h
      · exact h
      · exact absurd hj (hwait _ inv i hin hun j h)
    refine ⟨hjn, ?_⟩
    by_cases hji : j = i
    · subst hji; rw [opAt_some hi]; exact H
    · obtain ⟨hjun, oj, hoj, hall⟩ := mem_ready.1 hj
      have h1 : opM P ops w0 T N oi i (opM P ops w0 T N oj j (wpAnyM P md ops w0 T N n L f ((listed.setIfInBounds i true).setIfInBounds j true))) a F :=
        opM_mono (fun a1 F1 h => by
          have := (h.2 j (ready_mono hj hji)).2
          rwa [opAt_some hoj] at this) H
      have hnot : ∀ e ∈ oj.after, Region.binds md e = true → e.on ≠ i := fun e he hb heq => by
        have h1 := hall e he hb
        rw [heq, getD_both hun] at h1
        cases h1
      have h2 := opM_cons hc (opM_swap hi hoj (hfree j oj hoj hji hjun hnot) (fun cs b => hsel i oi cs b hi) (fun cs b => hsel j oj cs b hoj) hc h1)
      have hfree' : ∀ k ok, ops[k]? = some ok → k ≠ i → (listed.setIfInBounds j true).getD k true = false →
          (∀ e ∈ ok.after, Region.binds md e = true → e.on ≠ i) → oi.apart ops ok = true := fun k ok hk hki hun hno => by
        refine hfree k ok hk hki ?_ hno
        by_cases hjk : j = k
        · subst hjk; exact hjun
        · rw [getD_set_ne true hjk] at hun; exact hun
      rw [opAt_some hoj]
      refine opM_mono (fun a' F' h3 => ih (listed.setIfInBounds j true) a' F' (inv.set hj hjn) hfree' (ready_mono hr (Ne.symm hji)) h3.1 ?_) h2
      rw [Array.setIfInBounds_comm _ _ hji]
      exact h3.2

/-- the walk: the operations in the order of the text -/
def wpM (P : Program) (ops : Array Oper) (w0 : World) (T : Tmp → Option (Value → World → Prop)) (N : Tmp → Bool) (Q : Act → Fct → Prop) : List Oper → Nat → Act → Fct → Prop
  | [], _, a, F => Q a F
  | o :: rest, k, a, F => opM P ops w0 T N o k (wpM P ops w0 T N Q rest (k + 1)) a F
theorem wpAnyM_lex {n g : Nat} {Lq : Act → Fct → Prop} (hsel : Region.noSelect ops = true)
    (hwait : ∀ listed, HeadInv md ops n listed → ∀ i, i < n → listed.getD i true = false → ∀ t, n ≤ t → t ∉ Region.ready md ops listed) :
    ∀ (l : List Oper) (k : Nat) (listed : Array Bool) (a : Act) (F : Fct), (∀ j, j < l.length → l[j]? = ops[k + j]?) → k + l.length = n → HeadInv md ops n listed →
    Region.lexHead md ops g l.length k listed = true → Cons w0 F → wpM P ops w0 T N Lq l k a F →
    wpAnyM P md ops w0 T N n (fun listed' a' F' => Region.seqB md ops g n listed' = true ∧ Lq a' F') l.length listed a F
  | [], k, listed, a, F, _, hk, _, hB, _, h => by
    have : k = n := by simpa using hk
    subst this
    exact ⟨by simpa [Region.lexHead] using hB, h⟩
  | o :: l, k, listed, a, F, hl, hk, inv, hB, hc, h => by
    have h0 : ops[k]? = some o := by simpa using (hl 0 (by simp)).symm
    simp only [List.length_cons, Region.lexHead, Bool.and_eq_true] at hB
    obtain ⟨⟨hr, hf⟩, hB'⟩ := hB
    have hkn : k < n := by simp only [List.length_cons] at hk; omega
    have hr' : k ∈ Region.ready md ops listed := by simpa using hr
    exact wpAnyM_first h0 (Region.noSelect_spec hsel) hwait hkn (fun listed' a' F' hL => seqB_ready hL.1) l.length listed a F inv (Region.free_spec h0 hf) hr' hc
      (opM_mono (fun a1 F1 h1 => wpAnyM_lex hsel hwait l (k + 1) _ a1 F1 (fun j hj => by have := hl (j + 1) (by simp; omega); simpa [Nat.add_assoc, Nat.add_comm 1 j] using this) (by simp only [List.length_cons] at hk; omega) (inv.set hr' hkn) hB' h1.1 h1.2) (opM_cons hc h))

/-- the first n operations may be walked in the order of the text, and the rest comes behind them, one after another -/
def memB (md : Region.Mode) (ops : Array Oper) (n : Nat) : Bool :=
  Region.noSelect ops && (decide (n = ops.size) || (decide (n < ops.size) && Region.sinkB md ops n && Region.chainB md ops n)) && Region.lexHead md ops (ops.size - n) n 0 (Array.replicate ops.size false)
def noFct : Fct := ⟨fun _ _ => True, fun _ _ => False⟩
theorem noFct_good (w : World) : noFct.Good w := ⟨fun _ _ _ _ _ => trivial, fun _ _ _ _ h _ _ => h.elim, fun _ => trivial, fun _ _ h => h.elim⟩
/-- ONE WALK IN THE ORDER OF THE TEXT SERVES EVERY ORDER, also where operations make memory -/
theorem wp_region_new {id : Nat} {Q : Exit → Act → World → Prop} {a : Act} {w : World} {l : List Oper} (n : Nat) (T : Tmp → Option (Value → World → Prop)) (N : Tmp → Bool) (hm : P.follows .mixedOrders = true) (hB : memB .any l.toArray n = true)
    (h : wpM P l.toArray w T N (fun a' F => ∀ w', Below w.heap.size w w' → F.Good w' → wpList P l.toArray Q (l.drop n) a' w') (l.take n) 0 a noFct) : (Code.region id l.toArray true).wp P Q a w := by
  simp only [memB, Bool.and_eq_true, Bool.or_eq_true, decide_eq_true_eq] at hB
  obtain ⟨⟨hsel, hcase⟩, hlex⟩ := hB
  have hn' : n ≤ l.length := by rcases hcase with h | h <;> simp at h <;> omega
  have htl : (l.take n).length = n := by simp; omega
  have hdl : (l.drop n).length = l.toArray.size - n := by simp
  have inv0 : HeadInv .any l.toArray n (Array.replicate l.toArray.size false) :=
    ⟨by simp, fun j oj _ hl => (by rw [getD_replicate_false] at hl; cases hl), fun t _ ht => getD_in (by simpa using ht) (getD_replicate_false _ _)⟩
  have hwait : ∀ listed, HeadInv .any l.toArray n listed → ∀ i, i < n → listed.getD i true = false → ∀ t, n ≤ t → t ∉ Region.ready .any l.toArray listed := by
    intro listed inv i hin hun t ht
    rcases hcase with hsz | ⟨⟨hn, hs⟩, hc⟩
    · intro hr
      obtain ⟨_, ot, hot, _⟩ := mem_ready.1 hr
      have := (Array.getElem?_eq_some_iff.1 hot).1
      omega
    · exact tail_waits hs hc hn inv _ i rfl hin hun t ht
  have hcls : Cls w { w with drawn := w.drawn + 1 } := ⟨⟨w.drawn + 1, #[]⟩, by rw [grow_empty]; rfl⟩
  have hc0 : Cons w noFct := ⟨_, hcls, noFct_good _⟩
  have H := wpAnyM_lex (md := .any) (g := l.toArray.size - n) hsel hwait (l.take n) 0 _ a noFct (fun j hj => by
    have hj' : j < n := by rw [htl] at hj; exact hj
    simp [hj']) (by simpa using htl) inv0 (by rw [htl]; exact hlex) hc0 h
  refine wp_region_any hm ?_
  have := wpAny_of_headM (Q' := Q) (g := l.toArray.size - n) (fun listed a' F' w' hw' hF' hL => by
    have := wpAny_of_seq (md := .any) (Q' := Q) (l.drop n) n listed a' w' (fun j => by simp [List.getElem?_drop]) (by rw [hdl]; exact hL.1) (hL.2 w' hw'.below hF')
    rwa [hdl] at this) _ _ _ _ _ hcls (noFct_good _) H
  rw [htl, show n + (l.toArray.size - n) = l.toArray.size by omega] at this
  exact this
theorem wpM_mono {Q Q' : Act → Fct → Prop} (h : ∀ a F, Q a F → Q' a F) : ∀ (l : List Oper) (k : Nat) (a : Act) (F : Fct), wpM P ops w0 T N Q l k a F → wpM P ops w0 T N Q' l k a F
  | [], _, a, F, hh => h a F hh
  | _ :: l, k, _, _, hh => opM_mono (fun a F h1 => wpM_mono h l (k + 1) a F h1) hh
/-- .. where nothing is asked of which block is which -/
theorem wp_region_mem {id : Nat} {Q : Exit → Act → World → Prop} {a : Act} {w : World} {l : List Oper} (n : Nat) (T : Tmp → Option (Value → World → Prop)) (hm : P.follows .mixedOrders = true) (hB : memB .any l.toArray n = true)
    (h : wpM P l.toArray w T (fun _ => false) (fun a' F => ∀ w', Below w.heap.size w w' → (∀ m, F m w') → wpList P l.toArray Q (l.drop n) a' w') (l.take n) 0 a noFct) : (Code.region id l.toArray true).wp P Q a w :=
  wp_region_new n T (fun _ => false) hm hB (wpM_mono (fun _ _ h1 w' hb hF => h1 w' hb hF.2.2.1) _ _ _ _ h)
theorem looks_at {F : Fct} {o : Oper} {w : World} {k : Nat} {d : Tmp} (h : looks ops F o w) (hk : (ops[k]?).bind (·.dst) = some d) (hd : (o.looksAt ops).contains d = true) : F k w := by
  cases ho : ops[k]? with
  | none => rw [ho] at hk; cases hk
  | some ok => rw [ho] at hk; exact h k ok d ho hk (by simpa using hd)
theorem wpM_nil {Q : Act → Fct → Prop} {k : Nat} {a : Act} {F : Fct} (h : Q a F) : wpM P ops w0 T N Q [] k a F := h
theorem wpM_skip {Q : Act → Fct → Prop} {o : Oper} {rest : List Oper} {k : Nat} {a : Act} {F : Fct} (hw : Region.wanted o (yielded ops a.tmps) = false) (h : wpM P ops w0 T N Q rest (k + 1) (a.put o.dst undef) F) : wpM P ops w0 T N Q (o :: rest) k a F := by
  show opM P ops w0 T N o k _ a F
  unfold opM
  rw [if_neg (by rw [hw]; exact Bool.false_ne_true)]
  exact h
theorem wpM_calm {Q : Act → Fct → Prop} {o : Oper} {rest : List Oper} {k : Nat} {a : Act} {F : Fct} (hw : Region.wanted o (yielded ops a.tmps) = true) (ht : o.dst.bind T = none) (hc : calm o = true)
    (h : ∀ K : Act → Prop, (∀ a, wpM P ops w0 T N Q rest (k + 1) a F → K a) → o.quiet P a (fun w' => ∃ p : Regrown, w' = grow (redrawn w0 p.d) p.os) K) : wpM P ops w0 T N Q (o :: rest) k a F := by
  show opM P ops w0 T N o k _ a F
  unfold opM
  rw [if_pos hw]
  simp only [ht]
  obtain ⟨v, h1, h2⟩ := h (fun a => wpM P ops w0 T N Q rest (k + 1) a F) (fun _ h => h)
  exact ⟨hc, v, h1, h2⟩
theorem variesUpon_mono {w : World} {t t' : Value → World → Prop} (h : ∀ v w', t v w' → t' v w') : ∀ {r : Result Next}, variesUpon P w t r → variesUpon P w t' r
  | .ok (.value _) _, hh => ⟨hh.1, h _ _ hh.2⟩
  | .ok (.enter _ _) _, hh => ⟨hh.1, hh.2.mono fun _ _ ⟨v, he, hb, ht⟩ => ⟨v, he, hb, h _ _ ht⟩⟩
  | .ok .skip _, hh => hh.elim
  | .halt _ _, hh => hh.elim
theorem wpM_news {Q : Act → Fct → Prop} {o : Oper} {rest : List Oper} {k : Nat} {a : Act} {F : Fct} (t : Value → World → Prop) (nu : Bool) (hw : Region.wanted o (yielded ops a.tmps) = true) (ht : o.dst.bind T = some t) (hn : o.dst.any N = nu)
    (hrun : ∀ w, Below w0.heap.size w0 w → looks ops F o w → variesUpon P w (fresh nu w t) ((execOp a.eval o).run P w))
    (h : ∀ v, (∃ w, t v w) → ∀ a', a.put o.dst v = a' → wpM P ops w0 T N Q rest (k + 1) a' (F.put k (t v) (newB nu v))) : wpM P ops w0 T N Q (o :: rest) k a F := by
  show opM P ops w0 T N o k _ a F
  unfold opM
  rw [if_pos hw]
  simp only [ht, hn]
  exact ⟨fun w hw hl => hrun w hw.below hl, fun v hv => h v hv.fact _ rfl⟩
theorem wpM_makes {Q : Act → Fct → Prop} {o : Oper} {rest : List Oper} {k : Nat} {a : Act} {F : Fct} (t : Value → World → Prop) (hw : Region.wanted o (yielded ops a.tmps) = true) (ht : o.dst.bind T = some t)
    (hrun : ∀ w, Below w0.heap.size w0 w → looks ops F o w → variesUpon P w t ((execOp a.eval o).run P w))
    (h : ∀ v, (∃ w, t v w) → ∀ a', a.put o.dst v = a' → wpM P ops w0 T N Q rest (k + 1) a' (F.put k (t v) none)) (hn : o.dst.any N = false := by rfl) : wpM P ops w0 T N Q (o :: rest) k a F :=
  wpM_news t false hw ht hn (fun w h1 h2 => variesUpon_mono (fun _ _ h3 => ⟨h3, fun e => (by cases e)⟩) (hrun w h1 h2)) h
/-- one value, whatever the world -/
def Is (u : Value) (v : Value) (_ : World) : Prop := v = u
theorem run_call {o : Oper} {a : Act} {f : FuncId} {fn : Func} {args : List Operand} {tys : Array TypeId} {vals : List Value} (hop : o.op = .call ⟨.value (.func f), args.toArray, tys⟩) (hfn : P.funcs[f]? = some fn)
    (hn : (fn.name == "runtime.NumGoroutine") = false) (hb : fn.body.isNone = false) (hv : args.map a.eval = vals) (w : World) : (execOp a.eval o).run P w = .ok (.enter f vals.toArray) w := by
  have hv2 : Array.map (fun x => a.eval x) args.toArray = vals.toArray := by rw [← hv]; simp
  unfold execOp
  rw [hop]
  simp only [resolve, Deferred.ofValue, invoke, callFunc, Act.eval, Sem.run_bind, Sem.run_pure, Result.andThen, hv2, Array.empty_append, Array.append_empty, run_program, hfn, hn, hb, if_false, Bool.false_eq_true]
/-- a call by its contract: one value, whatever the world -/
theorem wpM_exact {Q : Act → Fct → Prop} {o : Oper} {rest : List Oper} {k : Nat} {a : Act} {F : Fct} {f : FuncId} {fn : Func} {args : List Operand} {tys : Array TypeId} {vals : List Value} {u : Value}
    (hw : Region.wanted o (yielded ops a.tmps) = true) (ht : o.dst.bind T = some (Is u)) (hop : o.op = .call ⟨.value (.func f), args.toArray, tys⟩) (hfn : P.funcs[f]? = some fn)
    (hn : (fn.name == "runtime.NumGoroutine") = false) (hb : fn.body.isNone = false)
    (hc : ∀ w, Below w0.heap.size w0 w → looks ops F o w → Calls P f vals.toArray w fun e w' => e = .returned u ∧ Below w.heap.size w w') (hv : args.map a.eval = vals)
    {a' : Act} (ha : a.put o.dst u = a') (h : wpM P ops w0 T N Q rest (k + 1) a' (F.put k (Is u u) none)) (hnn : o.dst.any N = false := by rfl) : wpM P ops w0 T N Q (o :: rest) k a F :=
  wpM_makes (Is u) hw ht (fun w hw hl => by
    rw [run_call hop hfn hn hb hv w]
    exact ⟨rfl, (hc w hw hl).mono fun e w' ⟨he, hb⟩ => ⟨u, he, hb, rfl⟩⟩) (fun v ⟨_, hv⟩ a'' ha'' => by
      obtain rfl : v = u := hv
      rw [← ha''] 
      rw [ha]
      exact h) hnn
/-- a call by its contract: what it yields has the property -/
theorem wpM_call {Q : Act → Fct → Prop} {o : Oper} {rest : List Oper} {k : Nat} {a : Act} {F : Fct} {f : FuncId} {fn : Func} {args : List Operand} {tys : Array TypeId} {vals : List Value} (t : Value → World → Prop)
    (hw : Region.wanted o (yielded ops a.tmps) = true) (ht : o.dst.bind T = some t) (hop : o.op = .call ⟨.value (.func f), args.toArray, tys⟩) (hfn : P.funcs[f]? = some fn)
    (hn : (fn.name == "runtime.NumGoroutine") = false) (hb : fn.body.isNone = false)
    (hc : ∀ w, Below w0.heap.size w0 w → looks ops F o w → Calls P f vals.toArray w fun e w' => ∃ v, e = .returned v ∧ Below w.heap.size w w' ∧ t v w') (hv : args.map a.eval = vals)
    (h : ∀ v, (∃ w, t v w) → ∀ a', a.put o.dst v = a' → wpM P ops w0 T N Q rest (k + 1) a' (F.put k (t v) none)) (hnn : o.dst.any N = false := by rfl) : wpM P ops w0 T N Q (o :: rest) k a F :=
  wpM_makes t hw ht (fun w hw hl => by
    rw [run_call hop hfn hn hb hv w]
    exact ⟨rfl, hc w hw hl⟩) h hnn
end
end Go.Proofs.YtcgpggknmhlnkaaDoor.Reg
