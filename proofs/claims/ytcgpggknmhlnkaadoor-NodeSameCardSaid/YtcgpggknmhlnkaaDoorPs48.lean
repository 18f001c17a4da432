/- alive: the sum of a range, less one: it is a formula of four nodes, three deep. Written by wip/gen22alive.py. -/
import Derived.Test.YtcgpggknmhlnkaaDoorPs42
import Derived.Test.YtcgpggknmhlnkaaDoorPs46
import Derived.Test.YtcgpggknmhlnkaaDoorPs47
namespace Go.Proofs.YtcgpggknmhlnkaaDoor.Nod
open Go.RowKit Kit Reg
open Go.Proofs.YtcgpggknmhlnkaaDoor.Cats (Errs)
def hR : Hd := ⟨4, 0, 0, 0, ⟨#[]⟩, 0, 0, false, false, 2, 0, false, false⟩
def hS : Hd := ⟨7, 67, 0, 0, ⟨#[]⟩, 0, 0, false, false, 0, 0, false, false⟩
def hO : Hd := ⟨1, 0, 1, 10000, ⟨#[]⟩, 0, 0, false, false, 0, 0, false, false⟩
def hN : Hd := ⟨6, 2, 0, 0, ⟨#[]⟩, 0, 0, false, false, 0, 0, false, false⟩
def hG : Hd := ⟨5, 0, 0, 0, ⟨#[]⟩, 0, 0, false, false, 0, 0, false, false⟩
def fR : Fo := .cons hR .nil .nil
def fN : Fo := .cons hS fR (.cons hO .nil .nil)
theorem one_R : oneV (hR, .nil) = true := by simp [oneV, zV, hR, arity, tops, Addr.mayB]
theorem one_O : oneV (hO, .nil) = true := by simp [oneV, zA, zB, hO, arity, tops, litB, plainT, Val.mayV, Dec.mayD] <;> rfl
theorem bare_S : bareB hS = true := by simp [bareB, zV, zA, zB, hS]
theorem bare_N : bareB hN = true := by simp [bareB, zV, zA, zB, hN]
theorem bare_G : bareB hG = true := by simp [bareB, zV, zA, zB, hG]
theorem one_S : oneV (hS, fR) = true := by
  have e : argsB (fun i => Fnm.kindF hS.op (i : Int)) (tops fR) = true := argsB_one (x := (hR, .nil)) rfl rfl
  have h1 : oneV (hS, fR) = (bareB hS && (Fnm.fitsF hS.op (arity fR : Int) && argsB (fun i => Fnm.kindF hS.op (i : Int)) (tops fR))) := by
    simp [oneV, hS]
  rw [h1, e, bare_S]
  rfl
theorem one_N : oneV (hN, fN) = true := by
  have e : argsB (fun _ => 118) (tops fN) = true := argsB_two (x := (hS, fR)) (y := (hO, .nil)) rfl rfl rfl
  have h1 : oneV (hN, fN) = (decide (1 ≤ hN.op) && (decide (hN.op ≤ 12) && (bareB hN && (((arity fN : Int) == 2) && argsB (fun _ => 118) (tops fN))))) := by
    simp [oneV, hN]
  rw [h1, e, bare_N]
  rfl
theorem one_G : oneV (hG, fR) = false := by
  have e : argsB (fun _ => 118) (tops fR) = false := argsB_one (x := (hR, .nil)) rfl rfl
  have h1 : oneV (hG, fR) = ((hG.op == 0) && (bareB hG && (((arity fR : Int) == 1) && argsB (fun _ => 118) (tops fR)))) := by
    simp [oneV, hG]
  rw [h1, e, bare_G]
  rfl
theorem fml_N : fmlV (hN, fN) = true := by
  have h1 : ((hN, fN) :: flat fN).all oneV = true := by
    show (oneV (hN, fN) && (oneV (hS, fR) && (oneV (hR, .nil) && (oneV (hO, .nil) && true)))) = true
    rw [one_N, one_S, one_R, one_O]
    rfl
  unfold fmlV
  rw [h1]
  rfl
theorem fml_R : fmlV (hR, .nil) = false := by
  unfold fmlV
  rfl
theorem right_R : ((hR, .nil) :: flat .nil).all oneV = true := by
  show (oneV (hR, .nil) && true) = true
  rw [one_R]
  rfl
theorem right_G : ((hG, fR) :: flat fR).all oneV = false := by
  rw [List.all_cons, one_G]
  rfl
theorem small_N : ∀ x ∈ flat fN, x.1.vt.size ≤ 281474976710656 := by
  intro x hx
  have e : flat fN = [(hS, fR), (hR, .nil), (hO, .nil)] := rfl
  rw [e] at hx
  simp only [List.mem_cons, List.not_mem_nil, or_false] at hx
  rcases hx with rfl | rfl | rfl <;> exact Nat.zero_le _
theorem small_R : ∀ x ∈ flat fR, x.1.vt.size ≤ 281474976710656 := by
  intro x hx
  have e : flat fR = [(hR, .nil)] := rfl
  rw [e] at hx
  simp only [List.mem_cons, List.not_mem_nil, or_false] at hx
  rcases hx with rfl
  exact Nat.zero_le _
/-- a row of nodes that was made: it reads as a slice of them -/
theorem kids_new1 (w : World) (h : Hd) (A : Option Addr) (n c : Nat) (F : Fo) (hk : KidsR w A n F) : KidsR (w.alloc (.cells #[.int .i64 h.k, .int .i64 h.op, .int .i64 h.vk, .int .i64 h.vn, .string h.vt, .int .i64 h.ar, .int .i64 h.ac, .bool h.ah, .bool h.al, .int .i64 h.br, .int .i64 h.bc, .bool h.bh, .bool h.bl, .slice A n c] 28)) (some ⟨w.heap.size, 0, none⟩) 1 (.cons h F .nil) := by
  have hX := CellsAt.new w [.int .i64 h.k, .int .i64 h.op, .int .i64 h.vk, .int .i64 h.vn, .string h.vt, .int .i64 h.ar, .int .i64 h.ac, .bool h.ah, .bool h.al, .int .i64 h.br, .int .i64 h.bc, .bool h.bh, .bool h.bl, .slice A n c] 28
  have hk2 := hk.on (below1 w (.cells #[.int .i64 h.k, .int .i64 h.op, .int .i64 h.vk, .int .i64 h.vn, .string h.vt, .int .i64 h.ar, .int .i64 h.ac, .bool h.ah, .bool h.al, .int .i64 h.br, .int .i64 h.bc, .bool h.bh, .bool h.bl, .slice A n c] 28))
  refine ⟨⟨rfl, by unfold maxLen; decide⟩, fun _ => ⟨w.heap.size, 0, rfl, hX.1, ⟨fun j v hj => ?_, ⟨A, n, c, (hX.2 13 _ rfl).1, hk2.1, hk2.2⟩, trivial⟩⟩⟩
  rw [Nat.zero_add]
  refine (hX.2 j v ?_).1
  have h13 : j < 13 := (List.getElem?_eq_some_iff.1 hj).1
  exact (List.getElem?_append_left (l₂ := [.slice A n c]) (by exact h13)).trans hj
theorem kids_new2 (w : World) (h : Hd) (A : Option Addr) (n c : Nat) (F : Fo) (hk : KidsR w A n F) (g : Hd) (B : Option Addr) (m d : Nat) (G : Fo) (hl : KidsR w B m G) :
    KidsR (w.alloc (.cells #[.int .i64 h.k, .int .i64 h.op, .int .i64 h.vk, .int .i64 h.vn, .string h.vt, .int .i64 h.ar, .int .i64 h.ac, .bool h.ah, .bool h.al, .int .i64 h.br, .int .i64 h.bc, .bool h.bh, .bool h.bl, .slice A n c, .int .i64 g.k, .int .i64 g.op, .int .i64 g.vk, .int .i64 g.vn, .string g.vt, .int .i64 g.ar, .int .i64 g.ac, .bool g.ah, .bool g.al, .int .i64 g.br, .int .i64 g.bc, .bool g.bh, .bool g.bl, .slice B m d] 28)) (some ⟨w.heap.size, 0, none⟩) 2 (.cons h F (.cons g G .nil)) := by
  have hX := CellsAt.new w [.int .i64 h.k, .int .i64 h.op, .int .i64 h.vk, .int .i64 h.vn, .string h.vt, .int .i64 h.ar, .int .i64 h.ac, .bool h.ah, .bool h.al, .int .i64 h.br, .int .i64 h.bc, .bool h.bh, .bool h.bl, .slice A n c, .int .i64 g.k, .int .i64 g.op, .int .i64 g.vk, .int .i64 g.vn, .string g.vt, .int .i64 g.ar, .int .i64 g.ac, .bool g.ah, .bool g.al, .int .i64 g.br, .int .i64 g.bc, .bool g.bh, .bool g.bl, .slice B m d] 28
  have hb := below1 w (.cells #[.int .i64 h.k, .int .i64 h.op, .int .i64 h.vk, .int .i64 h.vn, .string h.vt, .int .i64 h.ar, .int .i64 h.ac, .bool h.ah, .bool h.al, .int .i64 h.br, .int .i64 h.bc, .bool h.bh, .bool h.bl, .slice A n c, .int .i64 g.k, .int .i64 g.op, .int .i64 g.vk, .int .i64 g.vn, .string g.vt, .int .i64 g.ar, .int .i64 g.ac, .bool g.ah, .bool g.al, .int .i64 g.br, .int .i64 g.bc, .bool g.bh, .bool g.bl, .slice B m d] 28)
  have hk2 := hk.on hb
  have hl2 := hl.on hb
  refine ⟨⟨rfl, by unfold maxLen; decide⟩, fun _ => ⟨w.heap.size, 0, rfl, hX.1, ⟨fun j v hj => ?_, ⟨A, n, c, (hX.2 13 _ rfl).1, hk2.1, hk2.2⟩, ⟨fun j v hj => ?_, ⟨B, m, d, (hX.2 27 _ rfl).1, hl2.1, hl2.2⟩, trivial⟩⟩⟩⟩
  · rw [Nat.zero_add]
    refine (hX.2 j v ?_).1
    have h13 : j < 13 := (List.getElem?_eq_some_iff.1 hj).1
    exact (List.getElem?_append_left (l₂ := [.slice A n c, .int .i64 g.k, .int .i64 g.op, .int .i64 g.vk, .int .i64 g.vn, .string g.vt, .int .i64 g.ar, .int .i64 g.ac, .bool g.ah, .bool g.al, .int .i64 g.br, .int .i64 g.bc, .bool g.bh, .bool g.bl, .slice B m d]) (by exact h13)).trans hj
  · have h13 : j < 13 := (List.getElem?_eq_some_iff.1 hj).1
    rw [show 0 + 14 + j = 14 + j from by omega]
    refine (hX.2 (14 + j) v ?_).1
    have e : ∀ l : List Value, l.length = 14 → ∀ r : List Value, (l ++ r)[14 + j]? = r[j]? := fun l hl r => by rw [← hl, List.getElem?_append_right (Nat.le_add_right _ _), Nat.add_sub_cancel_left]
    have hj2 : ([.int .i64 g.k, .int .i64 g.op, .int .i64 g.vk, .int .i64 g.vn, .string g.vt, .int .i64 g.ar, .int .i64 g.ac, .bool g.ah, .bool g.al, .int .i64 g.br, .int .i64 g.bc, .bool g.bh, .bool g.bl] : List Value)[j]? = some v := hj
    exact (e [.int .i64 h.k, .int .i64 h.op, .int .i64 h.vk, .int .i64 h.vn, .string h.vt, .int .i64 h.ar, .int .i64 h.ac, .bool h.ah, .bool h.al, .int .i64 h.br, .int .i64 h.bc, .bool h.bh, .bool h.bl, .slice A n c] rfl ([.int .i64 g.k, .int .i64 g.op, .int .i64 g.vk, .int .i64 g.vn, .string g.vt, .int .i64 g.ar, .int .i64 g.ac, .bool g.ah, .bool g.al, .int .i64 g.br, .int .i64 g.bc, .bool g.bh, .bool g.bl] ++ [.slice B m d])).trans ((List.getElem?_append_left (by exact h13)).trans hj2)
/-- a slice of the nodes below in an order, as it is made in a region: its address, and that it reads as them -/
def KidsV (F : Fo) (n : Nat) (v : Value) (w : World) : Prop := ∃ b, v = .slice (some ⟨b, 0, none⟩) n n ∧ KidsR w (some ⟨b, 0, none⟩) n F
theorem KidsV.up {F : Fo} {n : Nat} {v : Value} {w : World} (h : Up (KidsV F n v) w) : KidsV F n v w := by
  obtain ⟨w1, ⟨b, e, hk⟩, hb⟩ := h
  exact ⟨b, e, hk.on hb⟩
/-- a sign ahead of a range -/
def NegV (v : Value) (w : World) : Prop := ∃ b, v = .agg #[.int .i64 5, .int .i64 0, .int .i64 0, .int .i64 0, .string ⟨#[]⟩, .int .i64 0, .int .i64 0, .bool false, .bool false, .int .i64 0, .int .i64 0, .bool false, .bool false, .slice (some ⟨b, 0, none⟩) 1 1] ∧ KidsR w (some ⟨b, 0, none⟩) 1 fR
theorem NegV.up {v : Value} {w : World} (h : Up (NegV v) w) : NegV v w := by
  obtain ⟨w1, ⟨b, e, hk⟩, hb⟩ := h
  exact ⟨b, e, hk.on hb⟩
/-- a row of copies of all four nodes -/
def FourV (v : Value) (w : World) : Prop := ∃ b o c L, v = .slice (some ⟨b, o, none⟩) 4 c ∧ ElsR w (some ⟨b, o, none⟩) 4 L ∧ Good w L ∧ L.map El.nd = (hN, fN) :: flat fN
theorem FourV.up {v : Value} {w : World} (h : Up (FourV v) w) : FourV v w := by
  obtain ⟨w1, ⟨b, o, c, L, e, hk, hg, hm⟩, hb⟩ := h
  exact ⟨b, o, c, L, e, hk.on hb, hg.on hb, hm⟩
/-- where the last of them lies -/
def PlaceV (v : Value) (w : World) : Prop := ∃ b o L, v = .pointer (some ⟨b, o + 42, none⟩) ∧ ElsR w (some ⟨b, o, none⟩) 4 L ∧ Good w L ∧ L.map El.nd = (hN, fN) :: flat fN
theorem PlaceV.up {v : Value} {w : World} (h : Up (PlaceV v) w) : PlaceV v w := by
  obtain ⟨w1, ⟨b, o, L, e, hk, hg, hm⟩, hb⟩ := h
  exact ⟨b, o, L, e, hk.on hb, hg.on hb, hm⟩
/-- the last of them -/
def LastV (v : Value) (_ : World) : Prop := ∃ A c, v = .agg #[.int .i64 1, .int .i64 0, .int .i64 1, .int .i64 10000, .string ⟨#[]⟩, .int .i64 0, .int .i64 0, .bool false, .bool false, .int .i64 0, .int .i64 0, .bool false, .bool false, .slice A 0 c]
set_option maxRecDepth 100000 in
set_option maxHeartbeats 8000000 in
theorem alive_c (w : World) (hE : Errs w) : Calls Tryd.prog 7 #[] w fun e w' => e = .returned (.bool true) ∧ Below w.heap.size w w' := by
  have HE := Lib.hid hE
  clear hE
  have z1 : (w.alloc (.cells #[.int .i64 4, .int .i64 0, .int .i64 0, .int .i64 0, .string ⟨#[]⟩, .int .i64 0, .int .i64 0, .bool false, .bool false, .int .i64 2, .int .i64 0, .bool false, .bool false, .slice none 0 0] 28)).heap.size = w.heap.size + 1 := by simp
  have z2 : ((w.alloc (.cells #[.int .i64 4, .int .i64 0, .int .i64 0, .int .i64 0, .string ⟨#[]⟩, .int .i64 0, .int .i64 0, .bool false, .bool false, .int .i64 2, .int .i64 0, .bool false, .bool false, .slice none 0 0] 28)).alloc (.cells #[.int .i64 4, .int .i64 0, .int .i64 0, .int .i64 0, .string ⟨#[]⟩, .int .i64 0, .int .i64 0, .bool false, .bool false, .int .i64 2, .int .i64 0, .bool false, .bool false, .slice none 0 0] 28)).heap.size = w.heap.size + 1 + 1 := by simp
  have z3 : (((w.alloc (.cells #[.int .i64 4, .int .i64 0, .int .i64 0, .int .i64 0, .string ⟨#[]⟩, .int .i64 0, .int .i64 0, .bool false, .bool false, .int .i64 2, .int .i64 0, .bool false, .bool false, .slice none 0 0] 28)).alloc (.cells #[.int .i64 4, .int .i64 0, .int .i64 0, .int .i64 0, .string ⟨#[]⟩, .int .i64 0, .int .i64 0, .bool false, .bool false, .int .i64 2, .int .i64 0, .bool false, .bool false, .slice none 0 0] 28)).alloc (.cells #[.int .i64 7, .int .i64 67, .int .i64 0, .int .i64 0, .string ⟨#[]⟩, .int .i64 0, .int .i64 0, .bool false, .bool false, .int .i64 0, .int .i64 0, .bool false, .bool false, .slice (some ⟨w.heap.size + 1, 0, none⟩) 1 1] 28)).heap.size = w.heap.size + 1 + 1 + 1 := by simp
  have z4 : ((((w.alloc (.cells #[.int .i64 4, .int .i64 0, .int .i64 0, .int .i64 0, .string ⟨#[]⟩, .int .i64 0, .int .i64 0, .bool false, .bool false, .int .i64 2, .int .i64 0, .bool false, .bool false, .slice none 0 0] 28)).alloc (.cells #[.int .i64 4, .int .i64 0, .int .i64 0, .int .i64 0, .string ⟨#[]⟩, .int .i64 0, .int .i64 0, .bool false, .bool false, .int .i64 2, .int .i64 0, .bool false, .bool false, .slice none 0 0] 28)).alloc (.cells #[.int .i64 7, .int .i64 67, .int .i64 0, .int .i64 0, .string ⟨#[]⟩, .int .i64 0, .int .i64 0, .bool false, .bool false, .int .i64 0, .int .i64 0, .bool false, .bool false, .slice (some ⟨w.heap.size + 1, 0, none⟩) 1 1] 28)).alloc (.cells #[.int .i64 1, .int .i64 0, .int .i64 1, .int .i64 10000, .string ⟨#[]⟩, .int .i64 0, .int .i64 0, .bool false, .bool false, .int .i64 0, .int .i64 0, .bool false, .bool false, .slice none 0 0] 28)).heap.size = w.heap.size + 1 + 1 + 1 + 1 := by simp
  have z5 : (((((w.alloc (.cells #[.int .i64 4, .int .i64 0, .int .i64 0, .int .i64 0, .string ⟨#[]⟩, .int .i64 0, .int .i64 0, .bool false, .bool false, .int .i64 2, .int .i64 0, .bool false, .bool false, .slice none 0 0] 28)).alloc (.cells #[.int .i64 4, .int .i64 0, .int .i64 0, .int .i64 0, .string ⟨#[]⟩, .int .i64 0, .int .i64 0, .bool false, .bool false, .int .i64 2, .int .i64 0, .bool false, .bool false, .slice none 0 0] 28)).alloc (.cells #[.int .i64 7, .int .i64 67, .int .i64 0, .int .i64 0, .string ⟨#[]⟩, .int .i64 0, .int .i64 0, .bool false, .bool false, .int .i64 0, .int .i64 0, .bool false, .bool false, .slice (some ⟨w.heap.size + 1, 0, none⟩) 1 1] 28)).alloc (.cells #[.int .i64 1, .int .i64 0, .int .i64 1, .int .i64 10000, .string ⟨#[]⟩, .int .i64 0, .int .i64 0, .bool false, .bool false, .int .i64 0, .int .i64 0, .bool false, .bool false, .slice none 0 0] 28)).alloc (.cells #[.int .i64 7, .int .i64 67, .int .i64 0, .int .i64 0, .string ⟨#[]⟩, .int .i64 0, .int .i64 0, .bool false, .bool false, .int .i64 0, .int .i64 0, .bool false, .bool false, .slice (some ⟨w.heap.size + 1, 0, none⟩) 1 1, .int .i64 1, .int .i64 0, .int .i64 1, .int .i64 10000, .string ⟨#[]⟩, .int .i64 0, .int .i64 0, .bool false, .bool false, .int .i64 0, .int .i64 0, .bool false, .bool false, .slice none 0 0] 28)).heap.size = w.heap.size + 1 + 1 + 1 + 1 + 1 := by simp
  have k2 : KidsR ((w.alloc (.cells #[.int .i64 4, .int .i64 0, .int .i64 0, .int .i64 0, .string ⟨#[]⟩, .int .i64 0, .int .i64 0, .bool false, .bool false, .int .i64 2, .int .i64 0, .bool false, .bool false, .slice none 0 0] 28)).alloc (.cells #[.int .i64 4, .int .i64 0, .int .i64 0, .int .i64 0, .string ⟨#[]⟩, .int .i64 0, .int .i64 0, .bool false, .bool false, .int .i64 2, .int .i64 0, .bool false, .bool false, .slice none 0 0] 28)) (some ⟨w.heap.size + 1, 0, none⟩) 1 fR := by
    have h := kids_new1 (w.alloc (.cells #[.int .i64 4, .int .i64 0, .int .i64 0, .int .i64 0, .string ⟨#[]⟩, .int .i64 0, .int .i64 0, .bool false, .bool false, .int .i64 2, .int .i64 0, .bool false, .bool false, .slice none 0 0] 28)) hR none 0 0 .nil (KidsR.nil _ _)
    rw [z1] at h
    exact h
  have k4 : KidsR ((((w.alloc (.cells #[.int .i64 4, .int .i64 0, .int .i64 0, .int .i64 0, .string ⟨#[]⟩, .int .i64 0, .int .i64 0, .bool false, .bool false, .int .i64 2, .int .i64 0, .bool false, .bool false, .slice none 0 0] 28)).alloc (.cells #[.int .i64 4, .int .i64 0, .int .i64 0, .int .i64 0, .string ⟨#[]⟩, .int .i64 0, .int .i64 0, .bool false, .bool false, .int .i64 2, .int .i64 0, .bool false, .bool false, .slice none 0 0] 28)).alloc (.cells #[.int .i64 7, .int .i64 67, .int .i64 0, .int .i64 0, .string ⟨#[]⟩, .int .i64 0, .int .i64 0, .bool false, .bool false, .int .i64 0, .int .i64 0, .bool false, .bool false, .slice (some ⟨w.heap.size + 1, 0, none⟩) 1 1] 28)).alloc (.cells #[.int .i64 1, .int .i64 0, .int .i64 1, .int .i64 10000, .string ⟨#[]⟩, .int .i64 0, .int .i64 0, .bool false, .bool false, .int .i64 0, .int .i64 0, .bool false, .bool false, .slice none 0 0] 28)) (some ⟨w.heap.size + 1, 0, none⟩) 1 fR := (k2.on (below1 _ _)).on (below1 _ _)
  have k5 : KidsR (((((w.alloc (.cells #[.int .i64 4, .int .i64 0, .int .i64 0, .int .i64 0, .string ⟨#[]⟩, .int .i64 0, .int .i64 0, .bool false, .bool false, .int .i64 2, .int .i64 0, .bool false, .bool false, .slice none 0 0] 28)).alloc (.cells #[.int .i64 4, .int .i64 0, .int .i64 0, .int .i64 0, .string ⟨#[]⟩, .int .i64 0, .int .i64 0, .bool false, .bool false, .int .i64 2, .int .i64 0, .bool false, .bool false, .slice none 0 0] 28)).alloc (.cells #[.int .i64 7, .int .i64 67, .int .i64 0, .int .i64 0, .string ⟨#[]⟩, .int .i64 0, .int .i64 0, .bool false, .bool false, .int .i64 0, .int .i64 0, .bool false, .bool false, .slice (some ⟨w.heap.size + 1, 0, none⟩) 1 1] 28)).alloc (.cells #[.int .i64 1, .int .i64 0, .int .i64 1, .int .i64 10000, .string ⟨#[]⟩, .int .i64 0, .int .i64 0, .bool false, .bool false, .int .i64 0, .int .i64 0, .bool false, .bool false, .slice none 0 0] 28)).alloc (.cells #[.int .i64 7, .int .i64 67, .int .i64 0, .int .i64 0, .string ⟨#[]⟩, .int .i64 0, .int .i64 0, .bool false, .bool false, .int .i64 0, .int .i64 0, .bool false, .bool false, .slice (some ⟨w.heap.size + 1, 0, none⟩) 1 1, .int .i64 1, .int .i64 0, .int .i64 1, .int .i64 10000, .string ⟨#[]⟩, .int .i64 0, .int .i64 0, .bool false, .bool false, .int .i64 0, .int .i64 0, .bool false, .bool false, .slice none 0 0] 28)) (some ⟨w.heap.size + 1 + 1 + 1 + 1, 0, none⟩) 2 fN := by
    have h := kids_new2 ((((w.alloc (.cells #[.int .i64 4, .int .i64 0, .int .i64 0, .int .i64 0, .string ⟨#[]⟩, .int .i64 0, .int .i64 0, .bool false, .bool false, .int .i64 2, .int .i64 0, .bool false, .bool false, .slice none 0 0] 28)).alloc (.cells #[.int .i64 4, .int .i64 0, .int .i64 0, .int .i64 0, .string ⟨#[]⟩, .int .i64 0, .int .i64 0, .bool false, .bool false, .int .i64 2, .int .i64 0, .bool false, .bool false, .slice none 0 0] 28)).alloc (.cells #[.int .i64 7, .int .i64 67, .int .i64 0, .int .i64 0, .string ⟨#[]⟩, .int .i64 0, .int .i64 0, .bool false, .bool false, .int .i64 0, .int .i64 0, .bool false, .bool false, .slice (some ⟨w.heap.size + 1, 0, none⟩) 1 1] 28)).alloc (.cells #[.int .i64 1, .int .i64 0, .int .i64 1, .int .i64 10000, .string ⟨#[]⟩, .int .i64 0, .int .i64 0, .bool false, .bool false, .int .i64 0, .int .i64 0, .bool false, .bool false, .slice none 0 0] 28)) hS (some ⟨w.heap.size + 1, 0, none⟩) 1 1 fR k4 hO none 0 0 .nil (KidsR.nil _ _)
    rw [z4] at h
    exact h
  have k6 : KidsR ((((((w.alloc (.cells #[.int .i64 4, .int .i64 0, .int .i64 0, .int .i64 0, .string ⟨#[]⟩, .int .i64 0, .int .i64 0, .bool false, .bool false, .int .i64 2, .int .i64 0, .bool false, .bool false, .slice none 0 0] 28)).alloc (.cells #[.int .i64 4, .int .i64 0, .int .i64 0, .int .i64 0, .string ⟨#[]⟩, .int .i64 0, .int .i64 0, .bool false, .bool false, .int .i64 2, .int .i64 0, .bool false, .bool false, .slice none 0 0] 28)).alloc (.cells #[.int .i64 7, .int .i64 67, .int .i64 0, .int .i64 0, .string ⟨#[]⟩, .int .i64 0, .int .i64 0, .bool false, .bool false, .int .i64 0, .int .i64 0, .bool false, .bool false, .slice (some ⟨w.heap.size + 1, 0, none⟩) 1 1] 28)).alloc (.cells #[.int .i64 1, .int .i64 0, .int .i64 1, .int .i64 10000, .string ⟨#[]⟩, .int .i64 0, .int .i64 0, .bool false, .bool false, .int .i64 0, .int .i64 0, .bool false, .bool false, .slice none 0 0] 28)).alloc (.cells #[.int .i64 7, .int .i64 67, .int .i64 0, .int .i64 0, .string ⟨#[]⟩, .int .i64 0, .int .i64 0, .bool false, .bool false, .int .i64 0, .int .i64 0, .bool false, .bool false, .slice (some ⟨w.heap.size + 1, 0, none⟩) 1 1, .int .i64 1, .int .i64 0, .int .i64 1, .int .i64 10000, .string ⟨#[]⟩, .int .i64 0, .int .i64 0, .bool false, .bool false, .int .i64 0, .int .i64 0, .bool false, .bool false, .slice none 0 0] 28)).alloc (.cells #[.int .i64 6, .int .i64 2, .int .i64 0, .int .i64 0, .string ⟨#[]⟩, .int .i64 0, .int .i64 0, .bool false, .bool false, .int .i64 0, .int .i64 0, .bool false, .bool false, .slice (some ⟨w.heap.size + 1 + 1 + 1 + 1, 0, none⟩) 2 2] 28)) (some ⟨w.heap.size + 1 + 1 + 1 + 1, 0, none⟩) 2 fN := k5.on (below1 _ _)
  have xR := (((((CellsAt.new w [.int .i64 4, .int .i64 0, .int .i64 0, .int .i64 0, .string ⟨#[]⟩, .int .i64 0, .int .i64 0, .bool false, .bool false, .int .i64 2, .int .i64 0, .bool false, .bool false, .slice none 0 0] 28).on_alloc (.cells #[.int .i64 4, .int .i64 0, .int .i64 0, .int .i64 0, .string ⟨#[]⟩, .int .i64 0, .int .i64 0, .bool false, .bool false, .int .i64 2, .int .i64 0, .bool false, .bool false, .slice none 0 0] 28)).on_alloc (.cells #[.int .i64 7, .int .i64 67, .int .i64 0, .int .i64 0, .string ⟨#[]⟩, .int .i64 0, .int .i64 0, .bool false, .bool false, .int .i64 0, .int .i64 0, .bool false, .bool false, .slice (some ⟨w.heap.size + 1, 0, none⟩) 1 1] 28)).on_alloc (.cells #[.int .i64 1, .int .i64 0, .int .i64 1, .int .i64 10000, .string ⟨#[]⟩, .int .i64 0, .int .i64 0, .bool false, .bool false, .int .i64 0, .int .i64 0, .bool false, .bool false, .slice none 0 0] 28)).on_alloc (.cells #[.int .i64 7, .int .i64 67, .int .i64 0, .int .i64 0, .string ⟨#[]⟩, .int .i64 0, .int .i64 0, .bool false, .bool false, .int .i64 0, .int .i64 0, .bool false, .bool false, .slice (some ⟨w.heap.size + 1, 0, none⟩) 1 1, .int .i64 1, .int .i64 0, .int .i64 1, .int .i64 10000, .string ⟨#[]⟩, .int .i64 0, .int .i64 0, .bool false, .bool false, .int .i64 0, .int .i64 0, .bool false, .bool false, .slice none 0 0] 28)).on_alloc (.cells #[.int .i64 6, .int .i64 2, .int .i64 0, .int .i64 0, .string ⟨#[]⟩, .int .i64 0, .int .i64 0, .bool false, .bool false, .int .i64 0, .int .i64 0, .bool false, .bool false, .slice (some ⟨w.heap.size + 1 + 1 + 1 + 1, 0, none⟩) 2 2] 28)
  have xO := ((CellsAt.new (((w.alloc (.cells #[.int .i64 4, .int .i64 0, .int .i64 0, .int .i64 0, .string ⟨#[]⟩, .int .i64 0, .int .i64 0, .bool false, .bool false, .int .i64 2, .int .i64 0, .bool false, .bool false, .slice none 0 0] 28)).alloc (.cells #[.int .i64 4, .int .i64 0, .int .i64 0, .int .i64 0, .string ⟨#[]⟩, .int .i64 0, .int .i64 0, .bool false, .bool false, .int .i64 2, .int .i64 0, .bool false, .bool false, .slice none 0 0] 28)).alloc (.cells #[.int .i64 7, .int .i64 67, .int .i64 0, .int .i64 0, .string ⟨#[]⟩, .int .i64 0, .int .i64 0, .bool false, .bool false, .int .i64 0, .int .i64 0, .bool false, .bool false, .slice (some ⟨w.heap.size + 1, 0, none⟩) 1 1] 28)) [.int .i64 1, .int .i64 0, .int .i64 1, .int .i64 10000, .string ⟨#[]⟩, .int .i64 0, .int .i64 0, .bool false, .bool false, .int .i64 0, .int .i64 0, .bool false, .bool false, .slice none 0 0] 28).on_alloc (.cells #[.int .i64 7, .int .i64 67, .int .i64 0, .int .i64 0, .string ⟨#[]⟩, .int .i64 0, .int .i64 0, .bool false, .bool false, .int .i64 0, .int .i64 0, .bool false, .bool false, .slice (some ⟨w.heap.size + 1, 0, none⟩) 1 1, .int .i64 1, .int .i64 0, .int .i64 1, .int .i64 10000, .string ⟨#[]⟩, .int .i64 0, .int .i64 0, .bool false, .bool false, .int .i64 0, .int .i64 0, .bool false, .bool false, .slice none 0 0] 28)).on_alloc (.cells #[.int .i64 6, .int .i64 2, .int .i64 0, .int .i64 0, .string ⟨#[]⟩, .int .i64 0, .int .i64 0, .bool false, .bool false, .int .i64 0, .int .i64 0, .bool false, .bool false, .slice (some ⟨w.heap.size + 1 + 1 + 1 + 1, 0, none⟩) 2 2] 28)
  rw [z3] at xO
  have xN := CellsAt.new (((((w.alloc (.cells #[.int .i64 4, .int .i64 0, .int .i64 0, .int .i64 0, .string ⟨#[]⟩, .int .i64 0, .int .i64 0, .bool false, .bool false, .int .i64 2, .int .i64 0, .bool false, .bool false, .slice none 0 0] 28)).alloc (.cells #[.int .i64 4, .int .i64 0, .int .i64 0, .int .i64 0, .string ⟨#[]⟩, .int .i64 0, .int .i64 0, .bool false, .bool false, .int .i64 2, .int .i64 0, .bool false, .bool false, .slice none 0 0] 28)).alloc (.cells #[.int .i64 7, .int .i64 67, .int .i64 0, .int .i64 0, .string ⟨#[]⟩, .int .i64 0, .int .i64 0, .bool false, .bool false, .int .i64 0, .int .i64 0, .bool false, .bool false, .slice (some ⟨w.heap.size + 1, 0, none⟩) 1 1] 28)).alloc (.cells #[.int .i64 1, .int .i64 0, .int .i64 1, .int .i64 10000, .string ⟨#[]⟩, .int .i64 0, .int .i64 0, .bool false, .bool false, .int .i64 0, .int .i64 0, .bool false, .bool false, .slice none 0 0] 28)).alloc (.cells #[.int .i64 7, .int .i64 67, .int .i64 0, .int .i64 0, .string ⟨#[]⟩, .int .i64 0, .int .i64 0, .bool false, .bool false, .int .i64 0, .int .i64 0, .bool false, .bool false, .slice (some ⟨w.heap.size + 1, 0, none⟩) 1 1, .int .i64 1, .int .i64 0, .int .i64 1, .int .i64 10000, .string ⟨#[]⟩, .int .i64 0, .int .i64 0, .bool false, .bool false, .int .i64 0, .int .i64 0, .bool false, .bool false, .slice none 0 0] 28)) [.int .i64 6, .int .i64 2, .int .i64 0, .int .i64 0, .string ⟨#[]⟩, .int .i64 0, .int .i64 0, .bool false, .bool false, .int .i64 0, .int .i64 0, .bool false, .bool false, .slice (some ⟨w.heap.size + 1 + 1 + 1 + 1, 0, none⟩) 2 2] 28
  rw [z5] at xN
  have hb0 : Below w.heap.size w ((((((w.alloc (.cells #[.int .i64 4, .int .i64 0, .int .i64 0, .int .i64 0, .string ⟨#[]⟩, .int .i64 0, .int .i64 0, .bool false, .bool false, .int .i64 2, .int .i64 0, .bool false, .bool false, .slice none 0 0] 28)).alloc (.cells #[.int .i64 4, .int .i64 0, .int .i64 0, .int .i64 0, .string ⟨#[]⟩, .int .i64 0, .int .i64 0, .bool false, .bool false, .int .i64 2, .int .i64 0, .bool false, .bool false, .slice none 0 0] 28)).alloc (.cells #[.int .i64 7, .int .i64 67, .int .i64 0, .int .i64 0, .string ⟨#[]⟩, .int .i64 0, .int .i64 0, .bool false, .bool false, .int .i64 0, .int .i64 0, .bool false, .bool false, .slice (some ⟨w.heap.size + 1, 0, none⟩) 1 1] 28)).alloc (.cells #[.int .i64 1, .int .i64 0, .int .i64 1, .int .i64 10000, .string ⟨#[]⟩, .int .i64 0, .int .i64 0, .bool false, .bool false, .int .i64 0, .int .i64 0, .bool false, .bool false, .slice none 0 0] 28)).alloc (.cells #[.int .i64 7, .int .i64 67, .int .i64 0, .int .i64 0, .string ⟨#[]⟩, .int .i64 0, .int .i64 0, .bool false, .bool false, .int .i64 0, .int .i64 0, .bool false, .bool false, .slice (some ⟨w.heap.size + 1, 0, none⟩) 1 1, .int .i64 1, .int .i64 0, .int .i64 1, .int .i64 10000, .string ⟨#[]⟩, .int .i64 0, .int .i64 0, .bool false, .bool false, .int .i64 0, .int .i64 0, .bool false, .bool false, .slice none 0 0] 28)).alloc (.cells #[.int .i64 6, .int .i64 2, .int .i64 0, .int .i64 0, .string ⟨#[]⟩, .int .i64 0, .int .i64 0, .bool false, .bool false, .int .i64 0, .int .i64 0, .bool false, .bool false, .slice (some ⟨w.heap.size + 1 + 1 + 1 + 1, 0, none⟩) 2 2] 28)) := on_alloc (on_alloc (on_alloc (on_alloc (on_alloc (below1 w _) _) _) _) _) _
  clear z1 z2 z3 z4 z5 k2 k4 k5
  go_enter Tryd.func7, Tryd.ntmps7
  go_wp2_with fail
  generalize ((((((w.alloc (.cells #[.int .i64 4, .int .i64 0, .int .i64 0, .int .i64 0, .string ⟨#[]⟩, .int .i64 0, .int .i64 0, .bool false, .bool false, .int .i64 2, .int .i64 0, .bool false, .bool false, .slice none 0 0] 28)).alloc (.cells #[.int .i64 4, .int .i64 0, .int .i64 0, .int .i64 0, .string ⟨#[]⟩, .int .i64 0, .int .i64 0, .bool false, .bool false, .int .i64 2, .int .i64 0, .bool false, .bool false, .slice none 0 0] 28)).alloc (.cells #[.int .i64 7, .int .i64 67, .int .i64 0, .int .i64 0, .string ⟨#[]⟩, .int .i64 0, .int .i64 0, .bool false, .bool false, .int .i64 0, .int .i64 0, .bool false, .bool false, .slice (some ⟨w.heap.size + 1, 0, none⟩) 1 1] 28)).alloc (.cells #[.int .i64 1, .int .i64 0, .int .i64 1, .int .i64 10000, .string ⟨#[]⟩, .int .i64 0, .int .i64 0, .bool false, .bool false, .int .i64 0, .int .i64 0, .bool false, .bool false, .slice none 0 0] 28)).alloc (.cells #[.int .i64 7, .int .i64 67, .int .i64 0, .int .i64 0, .string ⟨#[]⟩, .int .i64 0, .int .i64 0, .bool false, .bool false, .int .i64 0, .int .i64 0, .bool false, .bool false, .slice (some ⟨w.heap.size + 1, 0, none⟩) 1 1, .int .i64 1, .int .i64 0, .int .i64 1, .int .i64 10000, .string ⟨#[]⟩, .int .i64 0, .int .i64 0, .bool false, .bool false, .int .i64 0, .int .i64 0, .bool false, .bool false, .slice none 0 0] 28)).alloc (.cells #[.int .i64 6, .int .i64 2, .int .i64 0, .int .i64 0, .string ⟨#[]⟩, .int .i64 0, .int .i64 0, .bool false, .bool false, .int .i64 0, .int .i64 0, .bool false, .bool false, .slice (some ⟨w.heap.size + 1 + 1 + 1 + 1, 0, none⟩) 2 2] 28)) = W at *
  have A0 := fun d os => cell_regrown (xR.2 0 _ rfl).1 d os
  have B0 := fun d os => cell_regrown (xO.2 0 _ rfl).1 d os
  have C0 := fun d os => cell_regrown (xN.2 0 _ rfl).1 d os
  have A1 := fun d os => cell_regrown (xR.2 1 _ rfl).1 d os
  have B1 := fun d os => cell_regrown (xO.2 1 _ rfl).1 d os
  have C1 := fun d os => cell_regrown (xN.2 1 _ rfl).1 d os
  have A2 := fun d os => cell_regrown (xR.2 2 _ rfl).1 d os
  have B2 := fun d os => cell_regrown (xO.2 2 _ rfl).1 d os
  have C2 := fun d os => cell_regrown (xN.2 2 _ rfl).1 d os
  have A3 := fun d os => cell_regrown (xR.2 3 _ rfl).1 d os
  have B3 := fun d os => cell_regrown (xO.2 3 _ rfl).1 d os
  have C3 := fun d os => cell_regrown (xN.2 3 _ rfl).1 d os
  have A4 := fun d os => cell_regrown (xR.2 4 _ rfl).1 d os
  have B4 := fun d os => cell_regrown (xO.2 4 _ rfl).1 d os
  have C4 := fun d os => cell_regrown (xN.2 4 _ rfl).1 d os
  have A5 := fun d os => cell_regrown (xR.2 5 _ rfl).1 d os
  have B5 := fun d os => cell_regrown (xO.2 5 _ rfl).1 d os
  have C5 := fun d os => cell_regrown (xN.2 5 _ rfl).1 d os
  have A6 := fun d os => cell_regrown (xR.2 6 _ rfl).1 d os
  have B6 := fun d os => cell_regrown (xO.2 6 _ rfl).1 d os
  have C6 := fun d os => cell_regrown (xN.2 6 _ rfl).1 d os
  have A7 := fun d os => cell_regrown (xR.2 7 _ rfl).1 d os
  have B7 := fun d os => cell_regrown (xO.2 7 _ rfl).1 d os
  have C7 := fun d os => cell_regrown (xN.2 7 _ rfl).1 d os
  have A8 := fun d os => cell_regrown (xR.2 8 _ rfl).1 d os
  have B8 := fun d os => cell_regrown (xO.2 8 _ rfl).1 d os
  have C8 := fun d os => cell_regrown (xN.2 8 _ rfl).1 d os
  have A9 := fun d os => cell_regrown (xR.2 9 _ rfl).1 d os
  have B9 := fun d os => cell_regrown (xO.2 9 _ rfl).1 d os
  have C9 := fun d os => cell_regrown (xN.2 9 _ rfl).1 d os
  have A10 := fun d os => cell_regrown (xR.2 10 _ rfl).1 d os
  have B10 := fun d os => cell_regrown (xO.2 10 _ rfl).1 d os
  have C10 := fun d os => cell_regrown (xN.2 10 _ rfl).1 d os
  have A11 := fun d os => cell_regrown (xR.2 11 _ rfl).1 d os
  have B11 := fun d os => cell_regrown (xO.2 11 _ rfl).1 d os
  have C11 := fun d os => cell_regrown (xN.2 11 _ rfl).1 d os
  have A12 := fun d os => cell_regrown (xR.2 12 _ rfl).1 d os
  have B12 := fun d os => cell_regrown (xO.2 12 _ rfl).1 d os
  have C12 := fun d os => cell_regrown (xN.2 12 _ rfl).1 d os
  have A13 := fun d os => cell_regrown (xR.2 13 _ rfl).1 d os
  have B13 := fun d os => cell_regrown (xO.2 13 _ rfl).1 d os
  have C13 := fun d os => cell_regrown (xN.2 13 _ rfl).1 d os
  have HK := Lib.hid k6
  have HB := Lib.hid hb0
  have F1 := Lib.hid (fun w1 (hw : Below W.heap.size W w1) => formula_c hN (some ⟨w.heap.size + 1 + 1 + 1 + 1, 0, none⟩) 2 2 fN (by decide) small_N true fml_N w1 (HK.out.on hw) (HE.out.grown (on HB.out hw)))
  have F2 := Lib.hid (fun w1 (hw : Below W.heap.size W w1) => right_c 0 hR none 0 0 .nil (by decide) (fun x hx => by cases hx) true right_R w1 (KidsR.nil _ _) (HE.out.grown (on HB.out hw)))
  have F3 := Lib.hid (fun w1 (hw : Below W.heap.size W w1) => formula_c hR none 0 0 .nil (by decide) (fun x hx => by cases hx) false fml_R w1 (KidsR.nil _ _) (HE.out.grown (on HB.out hw)))
  have F4 := Lib.hid (fun w1 (hw : Below W.heap.size W w1) => deep_c 3 hN (some ⟨w.heap.size + 1 + 1 + 1 + 1, 0, none⟩) 2 2 fN (by decide) (by decide) w1 (HK.out.on hw))
  have F5 := Lib.hid (fun w1 (hw : Below W.heap.size W w1) => count_c 3 hN (some ⟨w.heap.size + 1 + 1 + 1 + 1, 0, none⟩) 2 2 fN (by decide) (by decide) w1 (HK.out.on hw))
  have F6 := Lib.hid (fun w1 (hw : Below W.heap.size W w1) b (hk : KidsR w1 (some ⟨b, 0, none⟩) 1 fR) => right_c 1 hG (some ⟨b, 0, none⟩) 1 1 fR (by decide) small_R false right_G w1 hk (HE.out.grown (on HB.out hw)))
  have F7 := Lib.hid (fun w1 (hw : Below W.heap.size W w1) => list_c hN (some ⟨w.heap.size + 1 + 1 + 1 + 1, 0, none⟩) 2 2 fN (by decide) w1 (HK.out.on hw))
  clear k6 hb0 xR xO xN
  refine wp_region_mem 36 (fun d => match d with
      | 17 => some (Is (.bool true))
      | 20 => some (Is (.bool true))
      | 24 => some (Is (.bool false))
      | 29 => some (Is (.int .i64 3))
      | 34 => some (Is (.int .i64 4))
      | 39 => some (KidsV fR 1)
      | 40 => some NegV
      | 41 => some (Is (.bool false))
      | 46 => some FourV
      | 47 => some PlaceV
      | 48 => some LastV
      | 50 => some (Is (.bool true))
      | _ => none) (by kernel_rfl) (by kernel_rfl) ?_
  simp only [List.take_succ_cons, List.take_zero, List.drop_succ_cons, List.drop_zero]
  repeat (first | ((with_reducible refine wpM_calm ?_ ?_ ?_ ?_); exact rfl; exact rfl; exact rfl; intro K hK; go_big_quiet_op; go_big_quiet_on) | ((with_reducible refine wpM_skip ?_ ?_); exact rfl; simp only [Act.put, List.setIfInBounds_toArray, List.set_cons_succ, List.set_cons_zero]))
  refine wpM_exact rfl rfl rfl Tryd.func17 (by kernel_rfl) (by kernel_rfl) (fun w1 hw1 _ => F1.out w1 hw1) rfl (by simp only [Act.put, List.setIfInBounds_toArray, List.set_cons_succ, List.set_cons_zero]; rfl) ?_
  repeat (first | ((with_reducible refine wpM_calm ?_ ?_ ?_ ?_); exact rfl; exact rfl; exact rfl; intro K hK; go_big_quiet_op; go_big_quiet_on) | ((with_reducible refine wpM_skip ?_ ?_); exact rfl; simp only [Act.put, List.setIfInBounds_toArray, List.set_cons_succ, List.set_cons_zero]))
  refine wpM_exact rfl rfl rfl Tryd.func6 (by kernel_rfl) (by kernel_rfl) (fun w1 hw1 _ => F2.out w1 hw1) rfl (by simp only [Act.put, List.setIfInBounds_toArray, List.set_cons_succ, List.set_cons_zero]; rfl) ?_
  repeat (first | ((with_reducible refine wpM_calm ?_ ?_ ?_ ?_); exact rfl; exact rfl; exact rfl; intro K hK; go_big_quiet_op; go_big_quiet_on) | ((with_reducible refine wpM_skip ?_ ?_); exact rfl; simp only [Act.put, List.setIfInBounds_toArray, List.set_cons_succ, List.set_cons_zero]))
  refine wpM_exact rfl rfl rfl Tryd.func17 (by kernel_rfl) (by kernel_rfl) (fun w1 hw1 _ => F3.out w1 hw1) rfl (by simp only [Act.put, List.setIfInBounds_toArray, List.set_cons_succ, List.set_cons_zero]; rfl) ?_
  repeat (first | ((with_reducible refine wpM_calm ?_ ?_ ?_ ?_); exact rfl; exact rfl; exact rfl; intro K hK; go_big_quiet_op; go_big_quiet_on) | ((with_reducible refine wpM_skip ?_ ?_); exact rfl; simp only [Act.put, List.setIfInBounds_toArray, List.set_cons_succ, List.set_cons_zero]))
  refine wpM_exact rfl rfl rfl Tryd.func9 (by kernel_rfl) (by kernel_rfl) (fun w1 hw1 _ => F4.out w1 hw1) rfl (by simp only [Act.put, List.setIfInBounds_toArray, List.set_cons_succ, List.set_cons_zero]; rfl) ?_
  repeat (first | ((with_reducible refine wpM_calm ?_ ?_ ?_ ?_); exact rfl; exact rfl; exact rfl; intro K hK; go_big_quiet_op; go_big_quiet_on) | ((with_reducible refine wpM_skip ?_ ?_); exact rfl; simp only [Act.put, List.setIfInBounds_toArray, List.set_cons_succ, List.set_cons_zero]))
  refine wpM_exact rfl rfl rfl Tryd.func12 (by kernel_rfl) (by kernel_rfl) (fun w1 hw1 _ => F5.out w1 hw1) rfl (by simp only [Act.put, List.setIfInBounds_toArray, List.set_cons_succ, List.set_cons_zero]; rfl) ?_
  repeat (first | ((with_reducible refine wpM_calm ?_ ?_ ?_ ?_); exact rfl; exact rfl; exact rfl; intro K hK; go_big_quiet_op; go_big_quiet_on) | ((with_reducible refine wpM_skip ?_ ?_); exact rfl; simp only [Act.put, List.setIfInBounds_toArray, List.set_cons_succ, List.set_cons_zero]))
  refine wpM_makes _ rfl rfl (fun w5 hw5 hl => ?_) ?_
  · simp [go_sem, variesUpon]
    exact ⟨below1 _ _, w5.heap.size, rfl, kids_new1 w5 hR none 0 0 .nil (KidsR.nil _ _)⟩
  rintro v3 ⟨_, b3, rfl, _⟩ a3 ha3
  simp only [Act.put, List.setIfInBounds_toArray, List.set_cons_succ, List.set_cons_zero] at ha3
  subst ha3
  repeat (first | ((with_reducible refine wpM_calm ?_ ?_ ?_ ?_); exact rfl; exact rfl; exact rfl; intro K hK; go_big_quiet_op; go_big_quiet_on) | ((with_reducible refine wpM_skip ?_ ?_); exact rfl; simp only [Act.put, List.setIfInBounds_toArray, List.set_cons_succ, List.set_cons_zero]))
  refine wpM_makes _ rfl rfl (fun w5 hw5 hl => ?_) ?_
  · obtain ⟨b9, e9, hk⟩ := KidsV.up ((looks_at (k := 23) (d := 39) hl (by kernel_rfl) (by kernel_rfl)).2 rfl)
    simp only [Value.slice.injEq, Option.some.injEq, Addr.mk.injEq, and_true] at e9
    subst e9
    simp [go_sem, variesUpon]
    exact ⟨Below.refl _ _, b3, rfl, hk⟩
  rintro v6 ⟨_, b6, rfl, _⟩ a6 ha6
  simp only [Act.put, List.setIfInBounds_toArray, List.set_cons_succ, List.set_cons_zero] at ha6
  subst ha6
  repeat (first | ((with_reducible refine wpM_calm ?_ ?_ ?_ ?_); exact rfl; exact rfl; exact rfl; intro K hK; go_big_quiet_op; go_big_quiet_on) | ((with_reducible refine wpM_skip ?_ ?_); exact rfl; simp only [Act.put, List.setIfInBounds_toArray, List.set_cons_succ, List.set_cons_zero]))
  refine wpM_exact rfl rfl rfl Tryd.func6 (by kernel_rfl) (by kernel_rfl) ?_ rfl (by simp only [Act.put, List.setIfInBounds_toArray, List.set_cons_succ, List.set_cons_zero]; rfl) ?_
  · intro w5 hw5 hl
    obtain ⟨b9, e9, hk⟩ := NegV.up ((looks_at (k := 24) (d := 40) hl (by kernel_rfl) (by kernel_rfl)).2 rfl)
    obtain rfl : b6 = b9 := by simpa using e9
    exact F6.out w5 hw5 _ hk
  repeat (first | ((with_reducible refine wpM_calm ?_ ?_ ?_ ?_); exact rfl; exact rfl; exact rfl; intro K hK; go_big_quiet_op; go_big_quiet_on) | ((with_reducible refine wpM_skip ?_ ?_); exact rfl; simp only [Act.put, List.setIfInBounds_toArray, List.set_cons_succ, List.set_cons_zero]))
  refine wpM_call _ rfl rfl rfl Tryd.func8 (by kernel_rfl) (by kernel_rfl) (fun w1 hw1 _ => (F7.out w1 hw1).mono fun e w2 ⟨A1, c1, L1, e1, h1, h2, h3, h4⟩ => by
    obtain ⟨b, o, rfl, _⟩ := h1.2 (by show 1 + count fN ≠ 0; omega)
    exact ⟨_, e1, h4, b, o, c1, L1, rfl, h1, h2, h3⟩) rfl ?_
  rintro v4 ⟨_, b7, o7, c7, L7, rfl, _⟩ a4 ha4
  simp only [Act.put, List.setIfInBounds_toArray, List.set_cons_succ, List.set_cons_zero] at ha4
  subst ha4
  repeat (first | ((with_reducible refine wpM_calm ?_ ?_ ?_ ?_); exact rfl; exact rfl; exact rfl; intro K hK; go_big_quiet_op; go_big_quiet_on) | ((with_reducible refine wpM_skip ?_ ?_); exact rfl; simp only [Act.put, List.setIfInBounds_toArray, List.set_cons_succ, List.set_cons_zero]))
  refine wpM_makes _ rfl rfl (fun w5 hw5 hl => ?_) ?_
  · obtain ⟨b9, o9, c9, L9, e9, hk, hg, hm⟩ := FourV.up ((looks_at (k := 30) (d := 46) hl (by kernel_rfl) (by kernel_rfl)).2 rfl)
    simp only [Value.slice.injEq, Option.some.injEq, Addr.mk.injEq, and_true, true_and] at e9
    obtain ⟨⟨rfl, rfl⟩, rfl⟩ := e9
    simp [go_sem, variesUpon]
    exact ⟨Below.refl _ _, b7, o7, L9, rfl, hk, hg, hm⟩
  rintro v7 ⟨_, b4, o4, L4, rfl, _⟩ a7 ha7
  simp only [Act.put, List.setIfInBounds_toArray, List.set_cons_succ, List.set_cons_zero] at ha7
  subst ha7
  repeat (first | ((with_reducible refine wpM_calm ?_ ?_ ?_ ?_); exact rfl; exact rfl; exact rfl; intro K hK; go_big_quiet_op; go_big_quiet_on) | ((with_reducible refine wpM_skip ?_ ?_); exact rfl; simp only [Act.put, List.setIfInBounds_toArray, List.set_cons_succ, List.set_cons_zero]))
  refine wpM_makes _ rfl rfl (fun w5 hw5 hl => ?_) ?_
  · obtain ⟨b9, o9, L9, e9, hk, hg, hm⟩ := PlaceV.up ((looks_at (k := 31) (d := 47) hl (by kernel_rfl) (by kernel_rfl)).2 rfl)
    have e10 : b4 = b9 ∧ o4 = o9 := by simpa using e9
    obtain ⟨rfl, rfl⟩ := e10
    obtain ⟨⟨xh, xA, xn, xc, xf⟩, hx⟩ : ∃ e, L9[3]? = some e := ⟨_, List.getElem?_eq_getElem (by rw [hk.1]; decide)⟩
    have hnd : (L9.map El.nd)[3]? = some (hO, .nil) := by rw [hm]; rfl
    rw [List.getElem?_map, hx] at hnd
    have hnd2 : (xh, xf) = (hO, Fo.nil) := Option.some.inj hnd
    obtain ⟨rfl, rfl⟩ := Prod.mk.inj hnd2
    obtain rfl : 0 = xn := (hg _ (List.mem_of_getElem? hx)).1.1
    obtain ⟨b', o', e', hlt, hc⟩ := hk.at hx
    simp only [Option.some.injEq, Addr.mk.injEq, and_true] at e'
    obtain ⟨rfl, rfl⟩ := e'
    have y0 : w5.cell? ⟨b4, o4 + 42, none⟩ = some (.int .i64 1) := hc 0 _ rfl
    have y1 : w5.cell? ⟨b4, o4 + 43, none⟩ = some (.int .i64 0) := hc 1 _ rfl
    have y2 : w5.cell? ⟨b4, o4 + 44, none⟩ = some (.int .i64 1) := hc 2 _ rfl
    have y3 : w5.cell? ⟨b4, o4 + 45, none⟩ = some (.int .i64 10000) := hc 3 _ rfl
    have y4 : w5.cell? ⟨b4, o4 + 46, none⟩ = some (.string ⟨#[]⟩) := hc 4 _ rfl
    have y5 : w5.cell? ⟨b4, o4 + 47, none⟩ = some (.int .i64 0) := hc 5 _ rfl
    have y6 : w5.cell? ⟨b4, o4 + 48, none⟩ = some (.int .i64 0) := hc 6 _ rfl
    have y7 : w5.cell? ⟨b4, o4 + 49, none⟩ = some (.bool false) := hc 7 _ rfl
    have y8 : w5.cell? ⟨b4, o4 + 50, none⟩ = some (.bool false) := hc 8 _ rfl
    have y9 : w5.cell? ⟨b4, o4 + 51, none⟩ = some (.int .i64 0) := hc 9 _ rfl
    have y10 : w5.cell? ⟨b4, o4 + 52, none⟩ = some (.int .i64 0) := hc 10 _ rfl
    have y11 : w5.cell? ⟨b4, o4 + 53, none⟩ = some (.bool false) := hc 11 _ rfl
    have y12 : w5.cell? ⟨b4, o4 + 54, none⟩ = some (.bool false) := hc 12 _ rfl
    have y13 : w5.cell? ⟨b4, o4 + 55, none⟩ = some (.slice xA 0 xc) := hc 13 _ rfl
    simp [go_sem, variesUpon, y0, y1, y2, y3, y4, y5, y6, y7, y8, y9, y10, y11, y12, y13]
    exact ⟨Below.refl _ _, xA, xc, rfl⟩
  rintro v5 ⟨_, A5, c5, rfl⟩ a5 ha5
  simp only [Act.put, List.setIfInBounds_toArray, List.set_cons_succ, List.set_cons_zero] at ha5
  subst ha5
  repeat (first | ((with_reducible refine wpM_calm ?_ ?_ ?_ ?_); exact rfl; exact rfl; exact rfl; intro K hK; go_big_quiet_op; go_big_quiet_on) | ((with_reducible refine wpM_skip ?_ ?_); exact rfl; simp only [Act.put, List.setIfInBounds_toArray, List.set_cons_succ, List.set_cons_zero]))
  refine wpM_exact rfl rfl rfl Tryd.func10 (by kernel_rfl) (by kernel_rfl) (fun w1 _ _ => (same_c 0 (hO, .nil) A5 0 c5 (hO, .nil) none 0 0 w1 (by decide) (KidsR.nil _ _) (KidsR.nil _ _)).mono fun e w2 h2 => ⟨h2.1.trans (ret_bool (samB_yes rfl)), h2.2⟩) rfl (by simp only [Act.put, List.setIfInBounds_toArray, List.set_cons_succ, List.set_cons_zero]; rfl) ?_
  repeat (first | ((with_reducible refine wpM_calm ?_ ?_ ?_ ?_); exact rfl; exact rfl; exact rfl; intro K hK; go_big_quiet_op; go_big_quiet_on) | ((with_reducible refine wpM_skip ?_ ?_); exact rfl; simp only [Act.put, List.setIfInBounds_toArray, List.set_cons_succ, List.set_cons_zero]))
  refine wpM_nil ?_
  intro w9 hw9 _
  have hb := on HB.out hw9
  clear hw9
  go_wp2_with fail
  go_ret
  exact ⟨rfl, hb⟩
end Go.Proofs.YtcgpggknmhlnkaaDoor.Nod
