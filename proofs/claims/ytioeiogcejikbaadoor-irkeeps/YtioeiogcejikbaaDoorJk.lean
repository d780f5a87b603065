/- New: what it answers, plainly. -/
import Derived.Test.YtioeiogcejikbaaDoorJj
namespace Go.Proofs.YtioeiogcejikbaaDoor
open Go.RowKit
set_option linter.unusedVariables false
set_option linter.unusedSimpArgs false
set_option maxRecDepth 8000

section
variable {l : List Opr} {w w' : World}
/-- A run at its beginning. -/
def newS (n : Nat) (c : Cor) : Rn := ⟨0, c, nilW, 0, 0, false, false, List.replicate n 0⟩
/-- The numbers of a state are of their kinds. -/
structure CorOk (c : Cor) : Prop where
  x : ∀ i (h : i < 31), U64 c.x[i]
  sp0 : U64 c.sp0
  sp1 : U64 c.sp1
/-- A run whose blocks lie from B on. -/
structure Fresh (l : List Opr) (S : Rn) (B : Nat) (u : Value) (x : World) : Prop where
  ex : ∃ g vb so, u = ptr g 0 ∧ RunAt l g vb so S x ∧ B ≤ g ∧ B ≤ vb ∧ ∀ k, so.ownBlock = some k → B ≤ k
theorem Fresh.grow {S : Rn} {B : Nat} {u : Value} {x y : World} (h : Fresh l S B u x) (hb : Below x.heap.size x y) : Fresh l S B u y := by
  obtain ⟨g, vb, so, e, H, r⟩ := h.ex
  exact ⟨g, vb, so, e, H.grow hb, r⟩
structure NwC (w : World) (pc words el : Int) (v : Value) (l : List Opr) (c : Cor) (b1 b2 : Nat) (x : World) : Prop where
  r1 : x.heap[b1]? = some (.cells (blA pc words el v) 25)
  r2 : x.heap[b2]? = some (.cells c.cells 29)
  ops : Ops x v l
  below : Below w.heap.size w x
theorem NwC.grow {pc words el : Int} {v : Value} {c : Cor} {b1 b2 : Nat} {x y : World} (h : NwC w pc words el v l c b1 b2 x) (hb : Below x.heap.size x y) : NwC w pc words el v l c b1 b2 y :=
  ⟨by rw [hb.block _ (lt_of_some h.r1)]; exact h.r1, by rw [hb.block _ (lt_of_some h.r2)]; exact h.r2, h.ops.grow hb, below_then h.below (Nat.le_refl _) hb⟩
theorem NwC.c3 {pc words el : Int} {v : Value} {c : Cor} {b1 b2 : Nat} {x : World} (h : NwC w pc words el v l c b1 b2 x) : x.cell? ⟨b1, 3, none⟩ = some v := by rw [cell_of_row _ _ _ _ _ _ h.r1]; rfl
theorem NwC.c2 {pc words el : Int} {v : Value} {c : Cor} {b1 b2 : Nat} {x : World} (h : NwC w pc words el v l c b1 b2 x) : x.cell? ⟨b1, 2, none⟩ = some (vI el) := by rw [cell_of_row _ _ _ _ _ _ h.r1]; rfl
theorem NwC.ce {pc words el : Int} {v : Value} {c : Cor} {b1 b2 : Nat} {x : World} (h : NwC w pc words el v l c b1 b2 x) : x.cell? ⟨b2, 38, none⟩ = some (vI c.el) := by rw [cell_of_row _ _ _ _ _ _ h.r2, Cor.a38]
def rightC (c : Cor) : Bool := (c.el == 0 || c.el == 1) && decide (0 ≤ c.wait) && decide (c.wait ≤ 2) && decide (0 ≤ c.id) && decide (c.id ≤ 7)
set_option maxHeartbeats 1000000 in
theorem regsRight_c (c : Cor) (w : World) : Calls Tryd.prog 17 #[c.val] w fun e w' => e = .returned (.bool (rightC c)) ∧ Below w.heap.size w w' := by
  go_enter Tryd.func17, Tryd.ntmps17
  go_wp2_with (go_at_call 29; refine (isLevel_c _ _).mono ?_; rintro e w' ⟨rfl, rfl⟩)
  all_goals (go_ret; refine ⟨ret_bool ?_, by repeat (first | exact Below.refl _ _ | apply below_more | apply below_drew | apply below_drewN)⟩; unfold rightC; first | (simp_all; done) | (simp_all; omega) | (simp_all; rw [show decide (c.id < 8) = decide (c.id ≤ 7) from decide_eq_decide.2 (by omega)]))
/-- What New answers: the error. -/
def newE (pc words el : Int) (l : List Opr) (c : Cor) : Int := if rightB pc words el l = true then (if rightC c = true ∧ c.el = el then 0 else 1) else 4
def NewR (w : World) (pc words el : Int) (l : List Opr) (c : Cor) (e : Ending) (w' : World) : Prop :=
  Below w.heap.size w w' ∧ ((newE pc words el l c ≠ 0 ∧ e = .returned (.tuple #[.pointer none, vI (newE pc words el l c)])) ∨ (newE pc words el l c = 0 ∧ ∃ u, e = .returned (.tuple #[u, vI 0]) ∧ Fresh l (newS l.length c) w.heap.size u w'))
theorem blk_one (pc words el : Int) (v : Value) (hv : v.oneCell' = true) : (blA pc words el v).all (·.oneCell') = true := by
  have hi : ∀ k n, (Value.int k n).oneCell' = true := fun _ _ => rfl
  simp [hv, hi]
set_option maxHeartbeats 4000000 in
theorem built61 (ao : Option Addr) (m cap vb n : Nat) (c : Cor) (g : Nat) : Tryd.prog.built 61 [(0, .slice ao m cap), (1, .slice (some ⟨vb, 0, none⟩) n n), (3, c.val)] = some (rnA (.slice ao m cap) (.slice (some ⟨vb, 0, none⟩) n n) g (newS n c)) := by
  obtain ⟨⟨⟨l⟩, hl⟩, c0, c1, c2, c3, c4, c5, c6, c7, c8, c9, c10, c11, c12, c13, c14, c15, c16, c17⟩ := c
  rcases l with _ | ⟨x0, l⟩
  · exact absurd hl (by simp)
  rcases l with _ | ⟨x1, l⟩
  · exact absurd hl (by simp)
  rcases l with _ | ⟨x2, l⟩
  · exact absurd hl (by simp)
  rcases l with _ | ⟨x3, l⟩
  · exact absurd hl (by simp)
  rcases l with _ | ⟨x4, l⟩
  · exact absurd hl (by simp)
  rcases l with _ | ⟨x5, l⟩
  · exact absurd hl (by simp)
  rcases l with _ | ⟨x6, l⟩
  · exact absurd hl (by simp)
  rcases l with _ | ⟨x7, l⟩
  · exact absurd hl (by simp)
  rcases l with _ | ⟨x8, l⟩
  · exact absurd hl (by simp)
  rcases l with _ | ⟨x9, l⟩
  · exact absurd hl (by simp)
  rcases l with _ | ⟨x10, l⟩
  · exact absurd hl (by simp)
  rcases l with _ | ⟨x11, l⟩
  · exact absurd hl (by simp)
  rcases l with _ | ⟨x12, l⟩
  · exact absurd hl (by simp)
  rcases l with _ | ⟨x13, l⟩
  · exact absurd hl (by simp)
  rcases l with _ | ⟨x14, l⟩
  · exact absurd hl (by simp)
  rcases l with _ | ⟨x15, l⟩
  · exact absurd hl (by simp)
  rcases l with _ | ⟨x16, l⟩
  · exact absurd hl (by simp)
  rcases l with _ | ⟨x17, l⟩
  · exact absurd hl (by simp)
  rcases l with _ | ⟨x18, l⟩
  · exact absurd hl (by simp)
  rcases l with _ | ⟨x19, l⟩
  · exact absurd hl (by simp)
  rcases l with _ | ⟨x20, l⟩
  · exact absurd hl (by simp)
  rcases l with _ | ⟨x21, l⟩
  · exact absurd hl (by simp)
  rcases l with _ | ⟨x22, l⟩
  · exact absurd hl (by simp)
  rcases l with _ | ⟨x23, l⟩
  · exact absurd hl (by simp)
  rcases l with _ | ⟨x24, l⟩
  · exact absurd hl (by simp)
  rcases l with _ | ⟨x25, l⟩
  · exact absurd hl (by simp)
  rcases l with _ | ⟨x26, l⟩
  · exact absurd hl (by simp)
  rcases l with _ | ⟨x27, l⟩
  · exact absurd hl (by simp)
  rcases l with _ | ⟨x28, l⟩
  · exact absurd hl (by simp)
  rcases l with _ | ⟨x29, l⟩
  · exact absurd hl (by simp)
  rcases l with _ | ⟨x30, l⟩
  · exact absurd hl (by simp)
  rcases l with _ | ⟨y, l⟩
  · kernel_rfl
  · exact absurd hl (by simp)
end
end Go.Proofs.YtioeiogcejikbaaDoor
