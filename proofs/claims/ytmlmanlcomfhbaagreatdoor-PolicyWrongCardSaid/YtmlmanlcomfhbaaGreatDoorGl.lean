/- Policies as text, in plain lists: words, lines, what a line is, and what a reader of policies has to answer. No function of the program is named here.
   What a policy is, what is wrong with it, its text, and what any text is read as, in plain lists: what is told is read back, and what is read is told. No function of the program is named here.
   Policies with a line more: what stays of them (sets below 2^64, how many lines of each kind). No function of the program is named here. -/
import Derived.Test.YtmlmanlcomfhbaaGreatDoorGa
import Derived.Test.YtmlmanlcomfhbaaGreatDoorGc
namespace Go.Proofs.YtmlmanlcomfhbaaGreatDoor.Pol
open Go.Proofs.YtmlmanlcomfhbaaGreatDoor.Zone (Zn goodS wrongF whyI)
open Go.Proofs.YtmlmanlcomfhbaaGreatDoor.Right (Us Gr nameB findI whyU whyG wrongU wrongG)
open Go.Proofs.YtmlmanlcomfhbaaGreatDoor.Cats (U U_or U_zero labT LabIs labT_inj digs textL joinC joinC_nil joinC_one joinC_cons')
open Go.Proofs.YtmlmanlcomfhbaaGreatDoor.Span (textI textI_inj mayS SpanIs)
open Go.Proofs.YtmlmanlcomfhbaaGreatDoor.Addr (numN num_inj num_facts NumIs)
open Go.Proofs.YtmlmanlcomfhbaaGreatDoor.Lab (mayL)

/-- a text, cut at each blank -/
def wordsF : List UInt8 → List (List UInt8)
  | [] => [[]]
  | c :: r => if c = 32 then [] :: wordsF r else match wordsF r with
    | [] => [[c]]
    | w :: ws => (c :: w) :: ws
def joinW : List (List UInt8) → List UInt8
  | [] => []
  | [w] => w
  | w :: x :: r => w ++ 32 :: joinW (x :: r)
theorem wordsF_ne (t : List UInt8) : wordsF t ≠ [] := by
  cases t with
  | nil => simp [wordsF]
  | cons c r =>
    unfold wordsF
    split
    · simp
    · split <;> simp
theorem words_other {c : UInt8} {r w : List UInt8} {ws : List (List UInt8)} (hc : c ≠ 32) (h : wordsF r = w :: ws) : wordsF (c :: r) = (c :: w) :: ws := by
  rw [wordsF, if_neg hc, h]
theorem words_one : ∀ {w : List UInt8}, (32 : UInt8) ∉ w → wordsF w = [w]
  | [], _ => rfl
  | c :: r, h => words_other (fun e => h (by simp [e])) (words_one fun h2 => h (by simp [h2]))
theorem words_cons : ∀ {w : List UInt8} (r : List UInt8), (32 : UInt8) ∉ w → wordsF (w ++ 32 :: r) = w :: wordsF r
  | [], r, _ => by rw [List.nil_append, wordsF, if_pos rfl]
  | c :: q, r, h => words_other (fun e => h (by simp [e])) (words_cons r fun h2 => h (by simp [h2]))
theorem words_join : ∀ {ws : List (List UInt8)}, ws ≠ [] → (∀ w ∈ ws, (32 : UInt8) ∉ w) → wordsF (joinW ws) = ws
  | [], h, _ => absurd rfl h
  | [w], _, h => words_one (h w (by simp))
  | w :: x :: r, _, h => by
    rw [joinW, words_cons _ (h w (by simp)), words_join (by simp) fun v hv => h v (by simp [List.mem_cons.1 hv])]
theorem join_push (c : UInt8) (w : List UInt8) (ws : List (List UInt8)) : joinW ((c :: w) :: ws) = c :: joinW (w :: ws) := by
  cases ws <;> rfl
theorem join_words : ∀ t : List UInt8, joinW (wordsF t) = t
  | [] => rfl
  | c :: r => by
    have ih := join_words r
    unfold wordsF
    split
    · rename_i h
      subst h
      cases hr : wordsF r with
      | nil => exact absurd hr (wordsF_ne r)
      | cons w ws => rw [hr] at ih; rw [joinW, ih]; rfl
    · split
      · rename_i h; exact absurd h (wordsF_ne r)
      · rename_i w ws h
        rw [h] at ih
        rw [join_push, ih]

/-- a text's lines, each with its line feed; the last one without, if it has none -/
def linesG : List UInt8 → List (List UInt8)
  | [] => []
  | c :: r => if c = 10 then [10] :: linesG r else match linesG r with
    | [] => [[c]]
    | l :: ls => (c :: l) :: ls
def linesF (s : List UInt8) : List (List UInt8) := if s = [] then [[]] else linesG s
theorem lines_push {c : UInt8} {r l : List UInt8} {ls : List (List UInt8)} (hc : c ≠ 10) (h : linesG r = l :: ls) : linesG (c :: r) = (c :: l) :: ls := by
  rw [linesG, if_neg hc, h]
theorem lines_cons : ∀ {a : List UInt8} (r : List UInt8), (10 : UInt8) ∉ a → linesG (a ++ 10 :: r) = (a ++ [10]) :: linesG r
  | [], r, _ => by rw [List.nil_append, linesG, if_pos rfl]; rfl
  | c :: q, r, h => lines_push (fun e => h (by simp [e])) (lines_cons r fun h2 => h (by simp [h2]))
theorem lines_last : ∀ {a : List UInt8}, (10 : UInt8) ∉ a → a ≠ [] → linesG a = [a]
  | [], _, h => absurd rfl h
  | [c], h, _ => by
    have hc : c ≠ 10 := fun e => h (by simp [e])
    rw [linesG, if_neg hc]
    rfl
  | c :: d :: q, h, _ => lines_push (fun e => h (by simp [e])) (lines_last (fun h2 => h (List.mem_cons_of_mem _ h2)) (by simp))
theorem lines_flat : ∀ s : List UInt8, (linesG s).flatten = s
  | [] => rfl
  | c :: r => by
    have ih := lines_flat r
    unfold linesG
    split
    · rename_i h; subst h; rw [List.flatten_cons, ih]; rfl
    · split
      · rename_i h; rw [h] at ih; rw [← ih]; rfl
      · rename_i l ls h
        rw [h, List.flatten_cons] at ih
        rw [List.flatten_cons, List.cons_append, ih]
theorem linesF_flat (s : List UInt8) : (linesF s).flatten = s := by
  unfold linesF
  split
  · rename_i h; rw [h]; rfl
  · exact lines_flat s

/-- a line of a policy -/
inductive Ln where
  | grid (r c : Int)
  | zone (z : Zn)
  | user (u : Us)
  | grant (g : Gr)
def gridW : List UInt8 := [103, 114, 105, 100]
def zoneW : List UInt8 := [122, 111, 110, 101]
def userW : List UInt8 := [117, 115, 101, 114]
def grantW : List UInt8 := [103, 114, 97, 110, 116]
def Ln.kind : Ln → Nat
  | .grid _ _ => 1
  | .zone _ => 2
  | .user _ => 3
  | .grant _ => 4
def rowT (r : Int) : List UInt8 := numN (r - 1).toNat
def Ln.words : Ln → List (List UInt8)
  | .grid r c => [gridW, rowT r, rowT c]
  | .zone z => [zoneW, textI z.a z.b z.c z.d, labT z.l z.s]
  | .user u => [userW, u.name.data.toList, labT u.l u.s]
  | .grant g => [grantW, g.name.data.toList, labT g.l g.s, labT g.k g.r]
def Ln.text (x : Ln) : List UInt8 := joinW x.words ++ [10]
def labOk (l : Int) (s : Nat) : Prop := 0 ≤ l ∧ l ≤ 15 ∧ U s
def Ln.ok : Ln → Prop
  | .grid r c => (1 ≤ r ∧ r ≤ 999) ∧ 1 ≤ c ∧ c ≤ 999
  | .zone z => mayS z.a z.b z.c z.d = true ∧ labOk z.l z.s
  | .user u => (32 : UInt8) ∉ u.name.data.toList ∧ labOk u.l u.s
  | .grant g => (32 : UInt8) ∉ g.name.data.toList ∧ labOk g.l g.s ∧ labOk g.k g.r

/-- all bytes are at or above a comma: so there is no blank and no line feed -/
def High (t : List UInt8) : Prop := ∀ b ∈ t, 44 ≤ b.toNat
theorem High.blank {t : List UInt8} (h : High t) : (32 : UInt8) ∉ t := fun hm => by have := h _ hm; simp at this
theorem High.feed {t : List UInt8} (h : High t) : (10 : UInt8) ∉ t := fun hm => by have := h _ hm; simp at this
theorem High.append {a b : List UInt8} (h : High a) (k : High b) : High (a ++ b) := fun x hx => (List.mem_append.1 hx).elim (h x) (k x)
theorem High.cons {c : UInt8} {b : List UInt8} (h : 44 ≤ c.toNat) (k : High b) : High (c :: b) := fun x hx => (List.mem_cons.1 hx).elim (fun e => e ▸ h) (k x)
theorem High.nil : High [] := fun _ h => by cases h
theorem digs_high : ∀ k, k < 64 → ∀ b ∈ digs k, 44 ≤ b.toNat := by decide +kernel
theorem joinC_high : ∀ {ws : List (List UInt8)}, (∀ w ∈ ws, High w) → High (joinC ws)
  | [], _ => by rw [joinC_nil]; exact High.nil
  | [w], h => by rw [joinC_one]; exact h w (by simp)
  | w :: x :: r, h => by
    rw [joinC_cons' _ _ (by simp)]
    exact (h w (by simp)).append (High.cons (by decide) (joinC_high fun v hv => h v (by simp [List.mem_cons.1 hv])))
theorem labT_high (l : Int) (s : Nat) : High (labT l s) := by
  unfold labT
  split
  · exact High.nil
  · rename_i h
    have hd : High (digs l.toNat) := digs_high _ (by omega)
    split
    · intro b hb
      simp only [List.mem_cons, List.not_mem_nil, or_false] at hb
      rcases hb with rfl | rfl | rfl <;> decide
    · split
      · exact hd
      · refine hd.append (High.cons (by decide) (joinC_high fun w hw => ?_))
        obtain ⟨c, hc, rfl⟩ := List.mem_map.1 hw
        exact digs_high _ ((Cats.mem_bits _ _).1 hc).1
theorem num_high {r : Nat} (h : r < 999) : High (numN r) := fun b hb => by
  have h1 := ((num_facts r h).1 b hb).1
  rw [UInt8.le_iff_toNat_le] at h1
  have h2 : (48 : UInt8).toNat = 48 := rfl
  omega
theorem name_high {a b : Int} (h : Addr.mayB a b = true) : High (Addr.nameI a b) := by
  obtain ⟨i, j, rfl, rfl, hi, hj⟩ := Addr.of_mayB h
  rw [Addr.nameI_nat hi hj, Addr.nameN]
  refine High.append (fun b hb => ?_) (num_high (by omega))
  have h1 := (Addr.let_facts j (by omega) b hb).1
  rw [UInt8.le_iff_toNat_le] at h1
  have h2 : (65 : UInt8).toNat = 65 := rfl
  omega
theorem textI_high (a b c d : Int) : High (textI a b c d) := by
  unfold textI
  split
  · rename_i h
    have h1 := name_high (Span.mayS_left h)
    have h2 := name_high (Span.mayS_right h)
    split
    · exact h1
    · exact h1.append (High.cons (by decide) h2)
  · exact High.nil
theorem words_ok {x : Ln} (h : x.ok) : x.words ≠ [] ∧ ∀ w ∈ x.words, (32 : UInt8) ∉ w := by
  have w1 : (32 : UInt8) ∉ gridW := by decide
  have w2 : (32 : UInt8) ∉ zoneW := by decide
  have w3 : (32 : UInt8) ∉ userW := by decide
  have w4 : (32 : UInt8) ∉ grantW := by decide
  cases x with
  | grid r c =>
    obtain ⟨h1, h2⟩ := h
    refine ⟨by simp [Ln.words], fun w hw => ?_⟩
    simp only [Ln.words, List.mem_cons, List.not_mem_nil, or_false] at hw
    rcases hw with rfl | rfl | rfl
    · exact w1
    · exact (num_high (by omega)).blank
    · exact (num_high (by omega)).blank
  | zone z =>
    refine ⟨by simp [Ln.words], fun w hw => ?_⟩
    simp only [Ln.words, List.mem_cons, List.not_mem_nil, or_false] at hw
    rcases hw with rfl | rfl | rfl
    · exact w2
    · exact (textI_high _ _ _ _).blank
    · exact (labT_high _ _).blank
  | user u =>
    refine ⟨by simp [Ln.words], fun w hw => ?_⟩
    simp only [Ln.words, List.mem_cons, List.not_mem_nil, or_false] at hw
    rcases hw with rfl | rfl | rfl
    · exact w3
    · exact h.1
    · exact (labT_high _ _).blank
  | grant g =>
    refine ⟨by simp [Ln.words], fun w hw => ?_⟩
    simp only [Ln.words, List.mem_cons, List.not_mem_nil, or_false] at hw
    rcases hw with rfl | rfl | rfl | rfl
    · exact w4
    · exact h.1
    · exact (labT_high _ _).blank
    · exact (labT_high _ _).blank
theorem bytes_inj {x y : ByteArray} (h : x.data.toList = y.data.toList) : x = y := ByteArray.ext (Array.toList_inj.1 h)
theorem lab_inj {l k : Int} {s r : Nat} (h1 : labOk l s) (h2 : labOk k r) (h : labT l s = labT k r) : l = k ∧ s = r := by
  obtain ⟨a, rfl⟩ := Int.eq_ofNat_of_zero_le h1.1
  obtain ⟨b, rfl⟩ := Int.eq_ofNat_of_zero_le h2.1
  have h3 := h1.2.1
  have h4 := h2.2.1
  obtain ⟨e1, e2⟩ := labT_inj (by omega) (by omega) h1.2.2 h2.2.2 h
  exact ⟨by rw [e1], e2⟩
theorem row_inj {a b : Int} (ha : 1 ≤ a ∧ a ≤ 999) (hb : 1 ≤ b ∧ b ≤ 999) (h : rowT a = rowT b) : a = b := by
  have := num_inj (a := (a - 1).toNat) (b := (b - 1).toNat) (by omega) (by omega) h
  omega
theorem words_inj {x y : Ln} (hx : x.ok) (hy : y.ok) (h : x.words = y.words) : x = y := by
  cases x <;> cases y <;> simp only [Ln.words, List.cons.injEq, and_true] at h
  case grid.grid => rw [row_inj hx.1 hy.1 h.2.1, row_inj hx.2 hy.2 h.2.2]
  case zone.zone z u =>
    obtain ⟨e1, e2, e3, e4⟩ := textI_inj hx.1 hy.1 h.2.1
    obtain ⟨e5, e6⟩ := lab_inj hx.2 hy.2 h.2.2
    cases z; cases u
    simp only at e1 e2 e3 e4 e5 e6
    subst e1 e2 e3 e4 e5 e6
    rfl
  case user.user z u =>
    have e1 := bytes_inj h.2.1
    obtain ⟨e5, e6⟩ := lab_inj hx.2 hy.2 h.2.2
    cases z; cases u
    simp only at e1 e5 e6
    subst e1 e5 e6
    rfl
  case grant.grant z u =>
    have e1 := bytes_inj h.2.1
    obtain ⟨e3, e4⟩ := lab_inj hx.2.1 hy.2.1 h.2.2.1
    obtain ⟨e5, e6⟩ := lab_inj hx.2.2 hy.2.2 h.2.2.2
    cases z; cases u
    simp only at e1 e3 e4 e5 e6
    subst e1 e3 e4 e5 e6
    rfl
  all_goals first | exact absurd h.1 (by decide) | exact absurd h.2.2 (by simp) | simp at h
theorem text_words {x : Ln} (hx : x.ok) : wordsF (joinW x.words) = x.words := words_join (words_ok hx).1 (words_ok hx).2
theorem text_inj {x y : Ln} (hx : x.ok) (hy : y.ok) (h : x.text = y.text) : x = y := by
  apply words_inj hx hy
  rw [← text_words hx, ← text_words hy, (List.append_inj' h rfl).1]
/-- what a reader of lines has to answer -/
def LnIs (t : List UInt8) : Option Ln → Prop
  | some x => x.ok ∧ x.text = t
  | none => ∀ x : Ln, x.ok → x.text ≠ t
theorem LnIs.unique {t : List UInt8} : ∀ {o p : Option Ln}, LnIs t o → LnIs t p → o = p
  | some _, some _, h, k => by rw [text_inj h.1 k.1 (h.2.trans k.2.symm)]
  | some x, none, h, k => absurd h.2 (k x h.1)
  | none, some x, h, k => absurd k.2 (h x k.1)
  | none, none, _, _ => rfl
theorem LnIs.some_one (t : List UInt8) : ∃ o, LnIs t o := by
  by_cases h : ∃ x : Ln, x.ok ∧ x.text = t
  · obtain ⟨x, hx⟩ := h
    exact ⟨some x, hx⟩
  · exact ⟨none, fun x hx e => h ⟨x, hx, e⟩⟩
/-- .. out of its words -/
def WIs (ws : List (List UInt8)) : Option Ln → Prop
  | some x => x.ok ∧ x.words = ws
  | none => ∀ x : Ln, x.ok → x.words ≠ ws
theorem LnIs.of_words {a : List UInt8} : ∀ {o : Option Ln}, WIs (wordsF a) o → LnIs (a ++ [10]) o
  | some x, h => ⟨h.1, by rw [Ln.text, h.2, join_words]⟩
  | none, h => fun x hx e => h x hx (by rw [← text_words hx, (List.append_inj' e rfl).1])
theorem LnIs.no_feed {t : List UInt8} (h : ∀ a, t ≠ a ++ [10]) : LnIs t none := fun x _ e => h (joinW x.words) e.symm
theorem WIs.odd {ws : List (List UInt8)} (h3 : ws.length = 3 → ws[0]? ≠ some gridW ∧ ws[0]? ≠ some zoneW ∧ ws[0]? ≠ some userW) (h4 : ws.length = 4 → ws[0]? ≠ some grantW) : WIs ws none := by
  intro x _ e
  subst e
  cases x
  · exact (h3 rfl).1 rfl
  · exact (h3 rfl).2.1 rfl
  · exact (h3 rfl).2.2 rfl
  · exact h4 rfl rfl
theorem NumIs.row {t : List UInt8} {n : Int} (h : NumIs t n true) : (1 ≤ n + 1 ∧ n + 1 ≤ 999) ∧ rowT (n + 1) = t := by
  rcases h with ⟨_, k, hk, rfl, e⟩ | ⟨h, _⟩
  · refine ⟨by omega, ?_⟩
    unfold rowT
    rw [show ((k : Int) + 1 - 1).toNat = k by omega, e]
  · cases h
theorem NumIs.no_row {t : List UInt8} {n : Int} (h : NumIs t n false) {r : Int} (hr : 1 ≤ r ∧ r ≤ 999) : rowT r ≠ t := by
  rcases h with ⟨h, _⟩ | ⟨_, _, h⟩
  · cases h
  · exact h _ (by omega)
theorem LabIs.yes {t : List UInt8} {l : Int} {s : Nat} (h : LabIs t l s true) : labOk l s ∧ labT l s = t := by
  rcases h with ⟨_, h0, h1, hu, e⟩ | ⟨h, _⟩
  · exact ⟨⟨h0, h1, hu⟩, e⟩
  · cases h
theorem LabIs.no {t : List UInt8} {l : Int} {s : Nat} (h : LabIs t l s false) {k : Int} {r : Nat} (hk : labOk k r) : labT k r ≠ t := by
  rcases h with ⟨h, _⟩ | ⟨_, _, _, h⟩
  · cases h
  · obtain ⟨a, rfl⟩ := Int.eq_ofNat_of_zero_le hk.1
    have := hk.2.1
    exact h a r (by omega) hk.2.2
theorem SpanIs.yes {t : List UInt8} {a b c d : Int} (h : SpanIs t a b c d true) : mayS a b c d = true ∧ textI a b c d = t := by
  rcases h with ⟨_, h, e⟩ | ⟨h, _⟩
  · exact ⟨h, e⟩
  · cases h
theorem SpanIs.no {t : List UInt8} {a b c d : Int} (h : SpanIs t a b c d false) {x y z u : Int} (hm : mayS x y z u = true) : textI x y z u ≠ t := by
  rcases h with ⟨h, _⟩ | ⟨_, _, _, _, _, h⟩
  · cases h
  · exact h x y z u hm
theorem WIs.grid {u v : List UInt8} {n m : Int} {b c : Bool} (h1 : NumIs u n b) (h2 : NumIs v m c) : WIs [gridW, u, v] (if (b && c) = true then some (.grid (n + 1) (m + 1)) else none) := by
  cases b <;> cases c
  case true.true =>
    obtain ⟨r1, e1⟩ := NumIs.row h1
    obtain ⟨r2, e2⟩ := NumIs.row h2
    exact ⟨⟨r1, r2⟩, by rw [Ln.words, e1, e2]⟩
  all_goals
    intro x hx e
    cases x <;> simp only [Ln.words, List.cons.injEq, and_true] at e
    case grid => first | exact NumIs.no_row h1 hx.1 e.2.1 | exact NumIs.no_row h2 hx.2 e.2.2
    all_goals first | exact absurd e.1 (by decide) | simp at e
theorem WIs.zone {u v : List UInt8} {x y z t : Int} {l : Int} {s : Nat} {b c : Bool} (h1 : SpanIs u x y z t b) (h2 : LabIs v l s c) : WIs [zoneW, u, v] (if (b && c) = true then some (.zone ⟨x, y, z, t, l, s⟩) else none) := by
  cases b <;> cases c
  case true.true =>
    obtain ⟨r1, e1⟩ := SpanIs.yes h1
    obtain ⟨r2, e2⟩ := LabIs.yes h2
    exact ⟨⟨r1, r2⟩, by rw [Ln.words, e1, e2]⟩
  all_goals
    intro x hx e
    cases x <;> simp only [Ln.words, List.cons.injEq, and_true] at e
    case zone => first | exact SpanIs.no h1 hx.1 e.2.1 | exact LabIs.no h2 hx.2 e.2.2
    all_goals first | exact absurd e.1 (by decide) | simp at e
theorem WIs.user {u v : List UInt8} {l : Int} {s : Nat} {b : Bool} (hu : (32 : UInt8) ∉ u) (h2 : LabIs v l s b) : WIs [userW, u, v] (if b = true then some (.user ⟨⟨u.toArray⟩, l, s⟩) else none) := by
  cases b
  case true =>
    obtain ⟨r2, e2⟩ := LabIs.yes h2
    exact ⟨⟨by simpa using hu, r2⟩, by rw [Ln.words, e2]⟩
  case false =>
    intro x hx e
    cases x <;> simp only [Ln.words, List.cons.injEq, and_true] at e
    case user => exact LabIs.no h2 hx.2 e.2.2
    all_goals first | exact absurd e.1 (by decide) | simp at e
theorem WIs.grant {u v w : List UInt8} {l k : Int} {s r : Nat} {b c : Bool} (hu : (32 : UInt8) ∉ u) (h1 : LabIs v l s b) (h2 : LabIs w k r c) : WIs [grantW, u, v, w] (if (b && c) = true then some (.grant ⟨⟨u.toArray⟩, l, s, k, r⟩) else none) := by
  cases b <;> cases c
  case true.true =>
    obtain ⟨r1, e1⟩ := LabIs.yes h1
    obtain ⟨r2, e2⟩ := LabIs.yes h2
    exact ⟨⟨by simpa using hu, r1, r2⟩, by rw [Ln.words, e1, e2]⟩
  all_goals
    intro x hx e
    cases x <;> simp only [Ln.words, List.cons.injEq, and_true] at e
    case grant => first | exact LabIs.no h1 hx.2.1 e.2.2.1 | exact LabIs.no h2 hx.2.2 e.2.2.2
    all_goals first | exact absurd e.1 (by decide) | simp at e
theorem words_blank : ∀ (t : List UInt8), ∀ w ∈ wordsF t, (32 : UInt8) ∉ w
  | [], w, h => by simp [wordsF] at h; simp [h]
  | c :: r, w, h => by
    have ih := words_blank r
    unfold wordsF at h
    split at h
    · rcases List.mem_cons.1 h with rfl | h
      · simp
      · exact ih w h
    · rename_i hc
      split at h
      · rename_i e; exact absurd e (wordsF_ne r)
      · rename_i v vs e
        rw [e] at ih
        rcases List.mem_cons.1 h with rfl | h
        · have := ih v (by simp)
          simp only [List.mem_cons, not_or]
          exact ⟨fun e => hc e.symm, this⟩
        · exact ih w (by simp [h])
end Go.Proofs.YtmlmanlcomfhbaaGreatDoor.Pol
namespace Go.Proofs.YtmlmanlcomfhbaaGreatDoor.Pol
open Go.Proofs.YtmlmanlcomfhbaaGreatDoor.Zone (Zn goodS wrongF whyI)
open Go.Proofs.YtmlmanlcomfhbaaGreatDoor.Right (Us Gr nameB findI findI_or whyU whyG wrongU wrongG)
open Go.Proofs.YtmlmanlcomfhbaaGreatDoor.Cats (U U_zero)
open Go.Proofs.YtmlmanlcomfhbaaGreatDoor.Span (mayS)
open Go.Proofs.YtmlmanlcomfhbaaGreatDoor.Lab (mayL)

structure Pl where
  rows : Int
  cols : Int
  zs : List Zn
  us : List Us
  gs : List Gr
def Pl.zero : Pl := ⟨0, 0, [], [], []⟩
/-- a policy with a line more -/
def Ln.put (p : Pl) : Ln → Pl
  | .grid r c => { p with rows := r, cols := c }
  | .zone z => { p with zs := p.zs ++ [z] }
  | .user u => { p with us := p.us ++ [u] }
  | .grant g => { p with gs := p.gs ++ [g] }
/-- may a grid be that great? -/
def sizeB (r c : Int) : Bool := decide (1 ≤ r) && decide (r ≤ 999) && decide (1 ≤ c) && decide (c ≤ 702) && decide (r * c ≤ 400)
/-- the first line that is wrong, and why -/
def wrongP (p : Pl) : Int × Int :=
  if sizeB p.rows p.cols = false then (1, 2)
  else if (wrongF 0 p.zs p.rows p.cols).2 ≠ 0 then (2 + (wrongF 0 p.zs p.rows p.cols).1, (wrongF 0 p.zs p.rows p.cols).2)
  else if (wrongU p.us 0 p.us).2 ≠ 0 then (2 + p.zs.length + (wrongU p.us 0 p.us).1, (wrongU p.us 0 p.us).2)
  else if (wrongG p.us 0 p.gs).2 ≠ 0 then (2 + p.zs.length + p.us.length + (wrongG p.us 0 p.gs).1, (wrongG p.us 0 p.gs).2)
  else (0, 0)
def linesOf (p : Pl) : List Ln := .grid p.rows p.cols :: (p.zs.map .zone ++ (p.us.map .user ++ p.gs.map .grant))
def textAll (p : Pl) : List UInt8 := ((linesOf p).map Ln.text).flatten
def textP (p : Pl) : List UInt8 := if (wrongP p).2 = 0 then textAll p else []
/-- what has been read, at its end -/
def endP (p : Pl) : Pl × Int × Int := if (wrongP p).2 = 0 then (p, 0, 0) else (.zero, (wrongP p).1, (wrongP p).2)
def goF : Nat → Nat → Pl → List (Option Ln) → Pl × Int × Int
  | _, _, p, [] => endP p
  | n, _, _, none :: _ => (.zero, n, 1)
  | n, last, p, some x :: r => if ¬ (n = 1 ↔ x.kind = 1) ∨ x.kind < last then (.zero, n, 1) else goF (n + 1) x.kind (x.put p) r
def AllIs : List (List UInt8) → List (Option Ln) → Prop
  | [], [] => True
  | t :: ts, o :: os => LnIs t o ∧ AllIs ts os
  | _, _ => False
theorem AllIs.some_one : ∀ ts : List (List UInt8), ∃ os, AllIs ts os
  | [] => ⟨[], trivial⟩
  | t :: ts => by
    obtain ⟨o, ho⟩ := LnIs.some_one t
    obtain ⟨os, hos⟩ := AllIs.some_one ts
    exact ⟨o :: os, ho, hos⟩
theorem AllIs.unique : ∀ {ts : List (List UInt8)} {os ps : List (Option Ln)}, AllIs ts os → AllIs ts ps → os = ps
  | [], [], [], _, _ => rfl
  | [], _ :: _, _, h, _ => h.elim
  | [], [], _ :: _, _, h => h.elim
  | _ :: _, [], _, h, _ => h.elim
  | _ :: _, _ :: _, [], _, h => h.elim
  | _ :: _, _ :: _, _ :: _, h, k => by rw [LnIs.unique h.1 k.1, AllIs.unique h.2 k.2]
theorem AllIs.length : ∀ {ts : List (List UInt8)} {os : List (Option Ln)}, AllIs ts os → ts.length = os.length
  | [], [], _ => rfl
  | [], _ :: _, h => h.elim
  | _ :: _, [], h => h.elim
  | _ :: _, _ :: _, h => by rw [List.length_cons, List.length_cons, AllIs.length h.2]
theorem AllIs.at_ : ∀ {ts : List (List UInt8)} {os : List (Option Ln)} {k : Nat} {t : List UInt8}, AllIs ts os → ts[k]? = some t → ∃ o, os[k]? = some o ∧ LnIs t o
  | [], _, _, _, _, h => by simp at h
  | _ :: _, [], _, _, h, _ => h.elim
  | a :: ts, o :: os, 0, t, h, hk => by
    simp only [List.getElem?_cons_zero, Option.some.injEq] at hk
    subst hk
    exact ⟨o, rfl, h.1⟩
  | a :: ts, o :: os, k + 1, t, h, hk => by
    obtain ⟨p, hp, hl⟩ := AllIs.at_ (k := k) h.2 (by simpa using hk)
    exact ⟨p, by simpa using hp, hl⟩
/-- what a reader of policies has to answer -/
def PolIs (s : List UInt8) (r : Pl × Int × Int) : Prop := if 4000 < s.length then r = (.zero, 0, 3) else ∃ os, AllIs (linesF s) os ∧ goF 1 0 .zero os = r
theorem PolIs.unique {s : List UInt8} {r q : Pl × Int × Int} (h : PolIs s r) (k : PolIs s q) : r = q := by
  unfold PolIs at h k
  split at h
  · rename_i hl
    rw [if_pos hl] at k
    rw [h, k]
  · rename_i hl
    rw [if_neg hl] at k
    obtain ⟨os, h1, rfl⟩ := h
    obtain ⟨ps, k1, rfl⟩ := k
    rw [AllIs.unique h1 k1]

/- WHAT IS READ IS TOLD -/
theorem endP_ok {p q : Pl} {m : Int} (h : endP p = (q, m, 0)) : q = p ∧ m = 0 ∧ (wrongP p).2 = 0 := by
  unfold endP at h
  split at h
  · rename_i hw
    simp only [Prod.mk.injEq, and_true] at h
    exact ⟨h.1.symm, h.2.symm, hw⟩
  · rename_i hw
    simp only [Prod.mk.injEq] at h
    exact absurd h.2.2 hw
theorem reads_go : ∀ (os : List (Option Ln)) (ls : List (List UInt8)) (n last : Nat) (p q : Pl) (m : Int), 2 ≤ n → AllIs ls os → (last ≤ 2 → p.us = []) → (last ≤ 3 → p.gs = []) → goF n last p os = (q, m, 0) →
    m = 0 ∧ (wrongP q).2 = 0 ∧ textAll q = textAll p ++ ls.flatten
  | [], [], n, last, p, q, m, _, _, _, _, h => by
    obtain ⟨rfl, h2, h3⟩ := endP_ok h
    exact ⟨h2, h3, by simp⟩
  | [], _ :: _, _, _, _, _, _, _, h, _, _, _ => h.elim
  | _ :: _, [], _, _, _, _, _, _, h, _, _, _ => h.elim
  | none :: _, _ :: _, n, last, p, q, m, _, _, _, _, h => by
    simp [goF] at h
  | some x :: r, t :: ts, n, last, p, q, m, hn, ha, hu, hg, h => by
    obtain ⟨⟨hok, ht⟩, hr⟩ := ha
    rw [goF] at h
    split at h
    · simp at h
    · rename_i hc
      simp only [not_or, Decidable.not_not, Nat.not_lt] at hc
      obtain ⟨hc1, hc2⟩ := hc
      cases x with
      | grid a b => exact absurd (hc1.2 rfl) (by omega)
      | zone z =>
        have hu' := hu (by simpa [Ln.kind] using hc2)
        have hg' := hg (by simp only [Ln.kind] at hc2; omega)
        obtain ⟨e1, e2, e3⟩ := reads_go r ts (n + 1) 2 (Ln.put p (.zone z)) q m (by omega) hr (fun _ => hu') (fun _ => hg') h
        refine ⟨e1, e2, ?_⟩
        rw [e3, ← ht]
        simp [textAll, linesOf, Ln.put, hu', hg']
      | user u =>
        have hg' := hg (by simpa [Ln.kind] using hc2)
        obtain ⟨e1, e2, e3⟩ := reads_go r ts (n + 1) 3 (Ln.put p (.user u)) q m (by omega) hr (fun hh => absurd hh (by decide)) (fun _ => hg') h
        refine ⟨e1, e2, ?_⟩
        rw [e3, ← ht]
        simp [textAll, linesOf, Ln.put, hg']
      | grant g =>
        obtain ⟨e1, e2, e3⟩ := reads_go r ts (n + 1) 4 (Ln.put p (.grant g)) q m (by omega) hr (fun hh => absurd hh (by decide)) (fun hh => absurd hh (by decide)) h
        refine ⟨e1, e2, ?_⟩
        rw [e3, ← ht]
        simp [textAll, linesOf, Ln.put]
theorem PolIs.told {s : List UInt8} {p : Pl} {m : Int} (h : PolIs s (p, m, 0)) : m = 0 ∧ (wrongP p).2 = 0 ∧ textP p = s := by
  unfold PolIs at h
  split at h
  · simp at h
  · obtain ⟨os, ha, hgo⟩ := h
    have hs := linesF_flat s
    generalize linesF s = ls at *
    match os, ls, ha with
    | [], [], _ =>
      exfalso
      have h2 := (endP_ok hgo).2.2
      revert h2
      decide
    | none :: _, _ :: _, _ => simp [goF] at hgo
    | some x :: r, t :: ts, ⟨⟨hok, ht⟩, hr⟩ =>
      rw [goF] at hgo
      split at hgo
      · simp at hgo
      · rename_i hc
        simp only [not_or, Decidable.not_not, Nat.not_lt, true_iff] at hc
        cases x with
        | grid a b =>
          obtain ⟨e1, e2, e3⟩ := reads_go r ts 2 1 (Ln.put .zero (.grid a b)) p m (by omega) hr (fun _ => rfl) (fun _ => rfl) hgo
          refine ⟨e1, e2, ?_⟩
          rw [textP, if_pos e2, e3, ← hs, List.flatten_cons, ← ht]
          simp [textAll, linesOf, Ln.put, Pl.zero]
        | zone z => exact absurd hc.1 (by simp [Ln.kind])
        | user u => exact absurd hc.1 (by simp [Ln.kind])
        | grant g => exact absurd hc.1 (by simp [Ln.kind])

/- WHAT IS TOLD IS READ BACK -/
def PU (p : Pl) : Prop := (∀ z ∈ p.zs, U z.s) ∧ (∀ u ∈ p.us, U u.s) ∧ ∀ g ∈ p.gs, U g.s ∧ U g.r
theorem whyI_ok {k : Nat} {z : Zn} {a b : Int} (h : whyI k z a b = 0) : goodS z = true ∧ mayL z.l = true := by
  unfold whyI at h
  split at h
  · simp at h
  · split at h
    · simp at h
    · split at h
      · simp at h
      · split at h
        · simp at h
        · exact ⟨by simp_all, by simp_all⟩
theorem wrongF_ok : ∀ {zs : List Zn} {k : Nat} {a b : Int}, (wrongF k zs a b).2 = 0 → ∀ z ∈ zs, goodS z = true ∧ mayL z.l = true
  | [], _, _, _, _, _, h => by cases h
  | y :: r, k, a, b, h, z, hz => by
    rw [wrongF] at h
    split at h
    · rename_i hy
      rcases List.mem_cons.1 hz with rfl | hz
      · exact whyI_ok hy
      · exact wrongF_ok h z hz
    · rename_i hy; exact absurd h hy
theorem wrongU_ok {us : List Us} : ∀ {r : List Us} {k : Nat}, (wrongU us k r).2 = 0 → ∀ u ∈ r, nameB u.name.data.toList = true ∧ mayL u.l = true
  | [], _, _, _, h => by cases h
  | y :: r, k, h, z, hz => by
    rw [wrongU] at h
    split at h
    · rename_i hy
      rcases List.mem_cons.1 hz with rfl | hz
      · unfold whyU at hy
        split at hy
        · simp at hy
        · split at hy
          · simp at hy
          · split at hy
            · simp at hy
            · split at hy
              · simp at hy
              · exact ⟨by simp_all, by simp_all⟩
      · exact wrongU_ok h z hz
    · rename_i hy; exact absurd h hy
theorem wrongG_ok {us : List Us} : ∀ {r : List Gr} {k : Nat}, (wrongG us k r).2 = 0 → ∀ g ∈ r, 0 ≤ findI us g.name 0 ∧ mayL g.l = true ∧ mayL g.k = true
  | [], _, _, _, h => by cases h
  | y :: r, k, h, z, hz => by
    rw [wrongG] at h
    split at h
    · rename_i hy
      rcases List.mem_cons.1 hz with rfl | hz
      · unfold whyG at hy
        split at hy
        · simp at hy
        · split at hy
          · simp at hy
          · split at hy
            · simp at hy
            · rename_i h1 h2
              simp only [not_or, Bool.not_eq_false] at h2
              exact ⟨by omega, h2⟩
      · exact wrongG_ok h z hz
    · rename_i hy; exact absurd h hy
theorem wrongP_ok {p : Pl} (h : (wrongP p).2 = 0) : sizeB p.rows p.cols = true ∧ (wrongF 0 p.zs p.rows p.cols).2 = 0 ∧ (wrongU p.us 0 p.us).2 = 0 ∧ (wrongG p.us 0 p.gs).2 = 0 := by
  unfold wrongP at h
  split at h
  · simp at h
  · split at h
    · rename_i h1; exact absurd h h1
    · split at h
      · rename_i h1; exact absurd h h1
      · split at h
        · rename_i h1; exact absurd h h1
        · exact ⟨by simp_all, by simp_all, by simp_all, by simp_all⟩
theorem of_mayL {l : Int} (h : mayL l = true) : 0 ≤ l ∧ l ≤ 15 := by simpa [mayL] using h
theorem nameB_high {t : List UInt8} (h : nameB t = true) : High t := by
  intro b hb
  simp only [nameB, Bool.and_eq_true] at h
  have h1 := List.all_eq_true.1 h.2 b hb
  simp only [Right.wordB, Right.letB, Right.digB, Bool.or_eq_true, Bool.and_eq_true, decide_eq_true_eq] at h1
  omega
theorem lines_ok {p : Pl} (hp : PU p) (h : (wrongP p).2 = 0) : ∀ x ∈ linesOf p, x.ok ∧ ∀ w ∈ x.words, High w := by
  obtain ⟨h1, h2, h3, h4⟩ := wrongP_ok h
  obtain ⟨u1, u2, u3⟩ := hp
  have hz := wrongF_ok h2
  have hu := wrongU_ok h3
  have hg := wrongG_ok h4
  simp only [sizeB, Bool.and_eq_true, decide_eq_true_eq] at h1
  have g1 : High gridW := by unfold High; decide
  have g2 : High zoneW := by unfold High; decide
  have g3 : High userW := by unfold High; decide
  have g4 : High grantW := by unfold High; decide
  intro x hx
  simp only [linesOf, List.mem_cons, List.mem_append, List.mem_map] at hx
  rcases hx with rfl | ⟨z, hzz, rfl⟩ | ⟨u, huu, rfl⟩ | ⟨g, hgg, rfl⟩
  · refine ⟨⟨by omega, by omega⟩, fun w hw => ?_⟩
    simp only [Ln.words, List.mem_cons, List.not_mem_nil, or_false] at hw
    rcases hw with rfl | rfl | rfl
    · exact g1
    · exact num_high (by omega)
    · exact num_high (by omega)
  · obtain ⟨a1, a2⟩ := hz z hzz
    simp only [goodS, Bool.and_eq_true] at a1
    have a3 := of_mayL a2
    refine ⟨⟨a1.1, a3.1, a3.2, u1 z hzz⟩, fun w hw => ?_⟩
    simp only [Ln.words, List.mem_cons, List.not_mem_nil, or_false] at hw
    rcases hw with rfl | rfl | rfl
    · exact g2
    · exact textI_high _ _ _ _
    · exact labT_high _ _
  · obtain ⟨a1, a2⟩ := hu u huu
    have a3 := of_mayL a2
    have hn := nameB_high a1
    refine ⟨⟨hn.blank, a3.1, a3.2, u2 u huu⟩, fun w hw => ?_⟩
    simp only [Ln.words, List.mem_cons, List.not_mem_nil, or_false] at hw
    rcases hw with rfl | rfl | rfl
    · exact g3
    · exact hn
    · exact labT_high _ _
  · obtain ⟨a0, a1, a2⟩ := hg g hgg
    have a3 := of_mayL a1
    have a4 := of_mayL a2
    obtain ⟨k1, k2⟩ := u3 g hgg
    have hn : High g.name.data.toList := by
      rcases findI_or p.us g.name 0 with e | ⟨i, u, hi, e, _⟩
      · omega
      · rw [← e]
        exact nameB_high (hu u (List.mem_of_getElem? hi)).1
    refine ⟨⟨hn.blank, ⟨a3.1, a3.2, k1⟩, a4.1, a4.2, k2⟩, fun w hw => ?_⟩
    simp only [Ln.words, List.mem_cons, List.not_mem_nil, or_false] at hw
    rcases hw with rfl | rfl | rfl | rfl
    · exact g4
    · exact hn
    · exact labT_high _ _
    · exact labT_high _ _
theorem join_feed : ∀ {ws : List (List UInt8)}, (∀ w ∈ ws, High w) → (10 : UInt8) ∉ joinW ws
  | [], _ => by simp [joinW]
  | [w], h => (h w (by simp)).feed
  | w :: x :: r, h => by
    have h1 := (h w (by simp)).feed
    have h2 := join_feed (ws := x :: r) fun v hv => h v (by simp [List.mem_cons.1 hv])
    rw [joinW, List.mem_append, List.mem_cons, not_or, not_or]
    exact ⟨h1, by decide, h2⟩
theorem lines_texts : ∀ {xs : List Ln}, (∀ x ∈ xs, (10 : UInt8) ∉ joinW x.words) → linesG ((xs.map Ln.text).flatten) = xs.map Ln.text
  | [], _ => rfl
  | x :: r, h => by
    rw [List.map_cons, List.flatten_cons, Ln.text, List.append_assoc, List.singleton_append, lines_cons _ (h x (by simp)), lines_texts fun y hy => h y (by simp [hy])]
theorem all_texts : ∀ {xs : List Ln}, (∀ x ∈ xs, x.ok) → AllIs (xs.map Ln.text) (xs.map some)
  | [], _ => trivial
  | x :: r, h => ⟨⟨h x (by simp), rfl⟩, all_texts fun y hy => h y (by simp [hy])⟩
def Chain : Nat → List Ln → Prop
  | _, [] => True
  | last, x :: r => x.kind ≠ 1 ∧ last ≤ x.kind ∧ Chain x.kind r
theorem chain_grants : ∀ (gs : List Gr) {last : Nat}, last ≤ 4 → Chain last (gs.map .grant)
  | [], _, _ => trivial
  | _ :: r, _, h => ⟨by simp [Ln.kind], h, chain_grants r (Nat.le_refl _)⟩
theorem chain_users (gs : List Gr) : ∀ (us : List Us) {last : Nat}, last ≤ 3 → Chain last (us.map .user ++ gs.map .grant)
  | [], _, h => chain_grants gs (by omega)
  | _ :: r, _, h => ⟨by simp [Ln.kind], h, chain_users gs r (Nat.le_refl _)⟩
theorem chain_zones (us : List Us) (gs : List Gr) : ∀ (zs : List Zn) {last : Nat}, last ≤ 2 → Chain last (zs.map .zone ++ (us.map .user ++ gs.map .grant))
  | [], _, h => chain_users gs us (by omega)
  | _ :: r, _, h => ⟨by simp [Ln.kind], h, chain_zones us gs r (Nat.le_refl _)⟩
theorem go_chain : ∀ (xs : List Ln) (n last : Nat) (p : Pl), 2 ≤ n → Chain last xs → goF n last p (xs.map some) = endP (xs.foldl Ln.put p)
  | [], _, _, _, _, _ => rfl
  | x :: r, n, last, p, hn, ⟨h1, h2, h3⟩ => by
    rw [List.map_cons, goF, if_neg, go_chain r (n + 1) x.kind (x.put p) (by omega) h3]
    · rfl
    · simp only [not_or, Decidable.not_not, Nat.not_lt]
      exact ⟨⟨fun e => by omega, fun e => absurd e h1⟩, h2⟩
theorem put_zones : ∀ (zs : List Zn) (p : Pl), (zs.map Ln.zone).foldl Ln.put p = { p with zs := p.zs ++ zs }
  | [], p => by simp
  | z :: r, p => by rw [List.map_cons, List.foldl_cons, put_zones r]; simp [Ln.put]
theorem put_users : ∀ (us : List Us) (p : Pl), (us.map Ln.user).foldl Ln.put p = { p with us := p.us ++ us }
  | [], p => by simp
  | z :: r, p => by rw [List.map_cons, List.foldl_cons, put_users r]; simp [Ln.put]
theorem put_grants : ∀ (gs : List Gr) (p : Pl), (gs.map Ln.grant).foldl Ln.put p = { p with gs := p.gs ++ gs }
  | [], p => by simp
  | z :: r, p => by rw [List.map_cons, List.foldl_cons, put_grants r]; simp [Ln.put]
theorem put_all (p : Pl) : (linesOf p).foldl Ln.put .zero = p := by
  rw [linesOf, List.foldl_cons, List.foldl_append, List.foldl_append, put_zones, put_users, put_grants]
  simp [Ln.put, Pl.zero]
theorem textAll_ne (p : Pl) : textAll p ≠ [] := by
  intro h
  have := congrArg List.length h
  simp [textAll, linesOf, Ln.text] at this
theorem PolIs.of_text {p : Pl} (hp : PU p) (h : (wrongP p).2 = 0) (hl : (textP p).length ≤ 4000) : PolIs (textP p) (p, 0, 0) := by
  have hx := lines_ok hp h
  rw [textP, if_pos h] at *
  rw [PolIs, if_neg (by omega), linesF, if_neg (textAll_ne p), textAll, lines_texts fun x hxx => join_feed (hx x hxx).2]
  refine ⟨_, all_texts fun x hxx => (hx x hxx).1, ?_⟩
  rw [show goF 1 0 .zero ((linesOf p).map some) = endP ((linesOf p).foldl Ln.put .zero) from ?_, put_all, endP, if_pos h]
  rw [linesOf, List.map_cons, goF, if_neg (by simp [Ln.kind]), go_chain _ 2 _ _ (Nat.le_refl _) (chain_zones _ _ _ (by simp [Ln.kind]))]
  rfl
theorem LnIs.empty : LnIs [] none := LnIs.no_feed fun a e => by simp at e
theorem PolIs.empty : PolIs [] (.zero, 1, 1) := by
  rw [PolIs, if_neg (by simp), linesF, if_pos rfl]
  exact ⟨[none], ⟨LnIs.empty, trivial⟩, rfl⟩
theorem PolIs.long {s : List UInt8} (h : 4000 < s.length) : PolIs s (.zero, 0, 3) := by rw [PolIs, if_pos h]
end Go.Proofs.YtmlmanlcomfhbaaGreatDoor.Pol
namespace Go.Proofs.YtmlmanlcomfhbaaGreatDoor.Pol
open Go.Proofs.YtmlmanlcomfhbaaGreatDoor.Zone (Zn ZonesR)
open Go.Proofs.YtmlmanlcomfhbaaGreatDoor.Right (Us Gr UsersR GrantsR)
open Go.Proofs.YtmlmanlcomfhbaaGreatDoor.Cats (U U_zero)

theorem PU.zero : PU .zero := ⟨fun _ h => (nomatch h), fun _ h => (nomatch h), fun _ h => (nomatch h)⟩
theorem PU.put {p : Pl} {x : Ln} (h : PU p) (hx : x.ok) : PU (x.put p) := by
  obtain ⟨h1, h2, h3⟩ := h
  cases x with
  | grid a b => exact ⟨h1, h2, h3⟩
  | zone z =>
    refine ⟨fun y hy => ?_, h2, h3⟩
    rcases List.mem_append.1 hy with hy | hy
    · exact h1 y hy
    · rw [List.mem_singleton.1 hy]; exact hx.2.2.2
  | user u =>
    refine ⟨h1, fun y hy => ?_, h3⟩
    rcases List.mem_append.1 hy with hy | hy
    · exact h2 y hy
    · rw [List.mem_singleton.1 hy]; exact hx.2.2.2
  | grant g =>
    refine ⟨h1, h2, fun y hy => ?_⟩
    rcases List.mem_append.1 hy with hy | hy
    · exact h3 y hy
    · rw [List.mem_singleton.1 hy]; exact ⟨hx.2.1.2.2, hx.2.2.2.2⟩
theorem put_lens (p : Pl) (x : Ln) : (x.put p).zs.length ≤ p.zs.length + 1 ∧ (x.put p).us.length ≤ p.us.length + 1 ∧ (x.put p).gs.length ≤ p.gs.length + 1 := by
  cases x <;> simp [Ln.put]
/-- what is left of a text is none of the lines that a policy has, or one more -/
def restF (k : Nat) (l : List UInt8) : List (List UInt8) := if k = 0 then linesF l else linesG l
theorem restF_hit (k : Nat) {a b : List UInt8} (h : (10 : UInt8) ∉ a) : restF k (a ++ 10 :: b) = (a ++ [10]) :: restF (k + 1) b := by
  unfold restF
  rw [if_neg (Nat.succ_ne_zero k)]
  by_cases hk : k = 0
  · rw [if_pos hk, linesF, if_neg (by simp), lines_cons _ h]
  · rw [if_neg hk, lines_cons _ h]
theorem restF_miss (k : Nat) {l : List UInt8} (h : (10 : UInt8) ∉ l) (hk : k = 0 ∨ l ≠ []) : restF k l = [l] := by
  unfold restF
  by_cases hk0 : k = 0
  · rw [if_pos hk0, linesF]
    by_cases hl : l = []
    · rw [if_pos hl, hl]
    · rw [if_neg hl, lines_last h hl]
  · rw [if_neg hk0, lines_last h (hk.resolve_left hk0)]
theorem restF_end {k : Nat} (hk : k ≠ 0) : restF k [] = [] := by rw [restF, if_neg hk]; rfl
theorem LnIs.no_end {t : List UInt8} (h : (10 : UInt8) ∉ t) : LnIs t none := LnIs.no_feed fun a e => h (by rw [e]; simp)
/-- where a reader stands, with so much of the text left -/
def RdAt (T : List UInt8) (R : Pl × Int × Int) (k last : Nat) (p : Pl) (l : List UInt8) : Prop :=
  (∃ os, AllIs (restF k l) os ∧ goF (k + 1) last p os = R) ∧ PU p ∧ p.zs.length ≤ k ∧ p.us.length ≤ k ∧ p.gs.length ≤ k ∧ last ≤ 4 ∧ (last = 0 ↔ k = 0) ∧ k + l.length ≤ T.length
theorem RdAt.start {T : List UInt8} {R : Pl × Int × Int} (h : ∃ os, AllIs (linesF T) os ∧ goF 1 0 .zero os = R) : RdAt T R 0 0 .zero T :=
  ⟨h, PU.zero, Nat.le_refl _, Nat.le_refl _, Nat.le_refl _, by omega, Iff.rfl, by omega⟩
theorem RdAt.done {T : List UInt8} {R : Pl × Int × Int} {k last : Nat} {p : Pl} (h : RdAt T R k last p []) (hk : k ≠ 0) : endP p = R := by
  obtain ⟨⟨os, h1, h2⟩, _⟩ := h
  rw [restF_end hk] at h1
  cases os with
  | nil => exact h2
  | cons o r => exact h1.elim
theorem RdAt.miss {T : List UInt8} {R : Pl × Int × Int} {k last : Nat} {p : Pl} {l : List UInt8} (h : RdAt T R k last p l) (hn : (10 : UInt8) ∉ l) (hk : k = 0 ∨ l ≠ []) : R = (.zero, ((k : Int) + 1), 1) := by
  obtain ⟨⟨os, h1, h2⟩, _⟩ := h
  rw [restF_miss k hn hk] at h1
  cases os with
  | nil => exact h1.elim
  | cons o r =>
    obtain rfl := (LnIs.no_end hn).unique h1.1
    rw [← h2, goF]
    simp
/-- may a line stand there? -/
def standP (k last : Nat) : Bool := if last = 0 then decide (k = 1) else decide (1 < k) && decide (last ≤ k)
/-- what follows a line that is told -/
theorem RdAt.hit {T : List UInt8} {R : Pl × Int × Int} {k last : Nat} {p : Pl} {a b : List UInt8} {o : Option Ln} (h : RdAt T R k last p (a ++ 10 :: b)) (ha : (10 : UInt8) ∉ a) (ho : LnIs (a ++ [10]) o) (kk : Nat) (q : Pl)
    (hs : ∀ x, o = some x → kk = x.kind ∧ q = x.put p) (hn : o = none → kk = 0) :
    (standP kk last = false ∧ R = (.zero, ((k : Int) + 1), 1)) ∨ (standP kk last = true ∧ kk ≤ 4 ∧ RdAt T R (k + 1) kk q b) := by
  obtain ⟨⟨os, h1, h2⟩, hpu, m1, m2, m3, h4, h0, hl⟩ := h
  rw [restF_hit k ha] at h1
  cases os with
  | nil => exact h1.elim
  | cons o2 r =>
    obtain rfl := ho.unique h1.1
    cases o with
    | none =>
      obtain rfl := hn rfl
      refine .inl ⟨?_, ?_⟩
      · unfold standP; split <;> simp
      · rw [← h2, goF]; simp
    | some x =>
      obtain ⟨rfl, rfl⟩ := hs x rfl
      have hxk : 1 ≤ x.kind ∧ x.kind ≤ 4 := by cases x <;> simp [Ln.kind]
      rw [goF] at h2
      by_cases hc : ¬ (k + 1 = 1 ↔ x.kind = 1) ∨ x.kind < last
      · rw [if_pos hc] at h2
        refine .inl ⟨?_, by rw [← h2]; simp⟩
        unfold standP
        by_cases hl0 : last = 0
        · rw [if_pos hl0, decide_eq_false_iff_not]
          have := h0.1 hl0
          omega
        · rw [if_neg hl0]
          have : k ≠ 0 := fun e => hl0 (h0.2 e)
          by_cases h1 : 1 < x.kind
          · have : ¬ last ≤ x.kind := by omega
            simp [this]
          · simp [h1]
      · rw [if_neg hc] at h2
        simp only [not_or, Decidable.not_not, Nat.not_lt] at hc
        refine .inr ⟨?_, hxk.2, ⟨⟨r, h1.2, h2⟩, hpu.put ho.1, ?_, ?_, ?_, hxk.2, by omega, by simp at hl; omega⟩⟩
        · unfold standP
          by_cases hl0 : last = 0
          · rw [if_pos hl0, decide_eq_true_eq]
            have := h0.1 hl0
            exact hc.1.1 (by omega)
          · rw [if_neg hl0]
            have : k ≠ 0 := fun e => hl0 (h0.2 e)
            have h1 : 1 < x.kind := by
              have : x.kind ≠ 1 := fun e => by have := hc.1.2 e; omega
              omega
            simp [h1, hc.2]
        · exact Nat.le_trans (put_lens p x).1 (by omega)
        · exact Nat.le_trans (put_lens p x).2.1 (by omega)
        · exact Nat.le_trans (put_lens p x).2.2 (by omega)
end Go.Proofs.YtmlmanlcomfhbaaGreatDoor.Pol
