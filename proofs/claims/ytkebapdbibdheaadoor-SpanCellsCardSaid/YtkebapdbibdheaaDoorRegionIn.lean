/- A region that draws its order and calls nothing, walked once, also within a round of a loop over a function. No function of the program is named here. -/
import Derived.Sort.QuietThIn
import Derived.OwnWalkIn
import Derived.Test.YtkebapdbibdheaaDoorRegion
namespace Go.Proofs.YtkebapdbibdheaaDoor.Reg
open Go Go.RowKit Go.Sort

section
variable {F : Fence} {n : Nat} {P : Program} {ops : Array Oper} {C : World → Prop}
theorem calm_defer {o : Oper} (h : calm o = true) : ∀ c, o.op ≠ .defer c := by
  intro c e
  unfold calm at h
  rw [e] at h
  cases h
theorem calm_about {o : Oper} (h : calm o = true) (w : World) (ρ : Operand → Value) : o.about P w ρ = none := by
  obtain ⟨dst, op, ty, pos, aft, g⟩ := o
  unfold calm at h
  unfold Oper.about
  cases op <;> simp only [Bool.false_eq_true] at h <;> try rfl
  case call c =>
    obtain ⟨cal, ar, at'⟩ := c
    cases cal with
    | builtin b => cases b <;> simp only [Bool.false_eq_true] at h <;> simp [resolve, Target.leads, Sem.run_pure]
    | value f => simp at h
    | invoke r n => simp at h
/-- one operation that calls nothing, in whatever fence -/
theorem calm_in {o : Oper} {a : Act} {w : World} {v : Value} {K' : Act → World → Prop} {Q' : Exit → Act → World → Prop} (hc : calm o = true) (h : o.quietAt P a C w v) (hK : K' (a.put o.dst v) w) : o.wpIn F n P a w K' Q' := by
  unfold Oper.wpIn
  refine ⟨fun f hf => ?_, ?_⟩
  · rw [calm_about hc] at hf
    cases hf
  rw [Oper.semAt_plain F _ _ (calm_defer hc)]
  unfold Oper.quietAt at h
  have hne := calm_spec (P := P) hc a w
  generalize (execOp a.eval o).run P w = r at h hne
  cases r with
  | halt x w' => simp only [Oper.quietUpon] at h
  | ok x w' =>
    cases x <;> simp only [Oper.quietUpon] at h <;> simp only [Oper.uponIn]
    case value u =>
      rw [h.1, h.2]
      exact hK
    case skip =>
      rw [h.1]
      rw [h.2] at hK
      exact hK
    case enter f args => exact absurd rfl (hne f args w')
/-- the walk in the order of the text, of operations that call nothing: as the fence's own theory of orders asks it -/
theorem quietIn_of {Q : Act → Prop} : ∀ (l : List Oper) (a : Act), l.all calm = true → wpQuiet P ops C Q l a → wpQuietIn F n P ops C Q l a
  | [], _, _, h => h
  | o :: l, a, hc, h => by
    simp only [List.all_cons, Bool.and_eq_true] at hc
    unfold wpQuiet at h
    unfold wpQuietIn
    refine ⟨fun w _ f hf => (by rw [calm_about hc.1] at hf; cases hf), ?_⟩
    split
    · rename_i hw
      rw [if_pos hw] at h
      obtain ⟨v, h1, h2⟩ := h
      refine ⟨v, fun w hC => ?_, quietIn_of l _ hc.2 h2⟩
      have h3 := h1 w hC
      unfold Oper.quietAt at h3
      unfold Oper.quietAtIn
      have hne := calm_spec (P := P) hc.1 a w
      generalize (execOp a.eval o).run P w = r at h3 hne ⊢
      cases r with
      | halt x w' => simp only [Oper.quietUpon] at h3
      | ok x w' =>
        cases x <;> simp only [Oper.quietUpon] at h3 <;> simp only [Oper.quietUponIn]
        case value u => exact h3
        case skip => exact h3
        case enter f args => exact absurd rfl (hne f args w')
    · rename_i hw
      rw [if_neg hw] at h
      exact quietIn_of l _ hc.2 h
/-- whatever operation comes next, whatever the order -/
theorem anyIn_of {Q : Act → Prop} {Q' : Exit → Act → World → Prop} {md : Region.Mode} (hcalm : ∀ (i : Nat) (o : Oper), ops[i]? = some o → calm o = true) (hQ : ∀ a w, C w → Q a → Q' .normal a w) :
    ∀ (fuel : Nat) (listed : Array Bool) (a : Act) (w : World), C w → wpAnyQIn F n P md ops C Q fuel listed a → wpAnyIn F n P md ops Q' fuel listed a w
  | 0, _, _, _, hw, h => ⟨h.1, hQ _ _ hw h.2⟩
  | fuel + 1, listed, a, w, hw, h => ⟨fun h0 => hQ _ _ hw (h.1 h0), fun i hi => by
      have h1 := h.2 i hi
      have rec1 := fun a' => anyIn_of (md := md) hcalm hQ fuel (listed.setIfInBounds i true) a' w hw
      unfold qOpIn at h1
      unfold wpOpIn
      cases ho : ops[i]? with
      | none => simp only [ho] at h1 ⊢; exact rec1 _ h1
      | some o =>
        simp only [ho] at h1 ⊢
        have hc := hcalm i o ho
        cases hwant : Region.wanted o (yielded ops a.tmps) with
        | true =>
          simp only [hwant, if_true] at h1 ⊢
          obtain ⟨_, v, h2, h3⟩ := h1
          have h4 := h2 w hw
          refine calm_in (C := C) (v := v) hc ?_ (rec1 _ h3)
          unfold Oper.quietAtIn at h4
          unfold Oper.quietAt
          have hne := calm_spec (P := P) hc a w
          generalize (execOp a.eval o).run P w = r at h4 hne ⊢
          cases r with
          | halt x w' => simp only [Oper.quietUponIn] at h4
          | ok x w' =>
            cases x <;> simp only [Oper.quietUponIn] at h4 <;> simp only [Oper.quietUpon]
            case value u => exact h4
            case skip => exact h4
            case enter f args => exact absurd rfl (hne f args w')
        | false =>
          simp only [hwant, Bool.false_eq_true, if_false] at h1 ⊢
          exact ⟨fun f hf => (by rw [calm_about hc] at hf; cases hf), rec1 _ h1.2⟩⟩
/-- ONE WALK IN THE ORDER OF THE TEXT SERVES EVERY ORDER, in whatever fence, where the operations call nothing -/
theorem wpIn_region_calm {id : Nat} {Q : Exit → Act → World → Prop} {a : Act} {w : World} {l : List Oper} (hm : P.follows .mixedOrders = true) (hB : Region.lexB .any l.toArray = true) (hc : l.all calm = true)
    (h : wpQuiet P l.toArray (fun w' => ∃ p : Regrown, w' = grow (redrawn w p.d) p.os) (fun a' => ∀ w', (∃ p : Regrown, w' = grow (redrawn w p.d) p.os) → Q .normal a' w') l a) : (Code.region id l.toArray true).wpIn F n P Q a w := by
  simp only [Region.lexB, Bool.and_eq_true] at hB
  have hcls : (fun w' => ∃ p : Regrown, w' = grow (redrawn w p.d) p.os) { w with drawn := w.drawn + 1 } := ⟨⟨w.drawn + 1, #[]⟩, by rw [grow_empty]; rfl⟩
  refine wpIn_region_any hm (anyIn_of (Q := fun a' => ∀ w', (∃ p : Regrown, w' = grow (redrawn w p.d) p.os) → Q .normal a' w') ?_ (fun _ w' hw' h => h w' hw') _ _ _ _ hcls ?_)
  · intro i o ho
    have h1 : l[i]? = some o := by simpa using ho
    exact List.all_eq_true.1 hc o (List.mem_of_getElem? h1)
  · have := wpAnyQIn_lex (F := F) (n := n) (C := fun w' => ∃ p : Regrown, w' = grow (redrawn w p.d) p.os) (md := .any) hB.1 l 0 (Array.replicate l.toArray.size false) a (by simp) (by simpa using hB.2) (quietIn_of l a hc h)
    simpa using this
end
end Go.Proofs.YtkebapdbibdheaaDoor.Reg
