/- What holds makes of a form and an instruction: its contract. -/
import Derived.Test.YtcmilajlngnibaaTog
import Derived.BigQuiet
namespace Go.Proofs.Ytcmilajlngnibaa
open Go.RowKit

def isForm (F : Fm) (i : Ins) : Bool := (F.op == i.op) && (F.sub == i.sub || F.sub == -1)
theorem below_drewN {B : Nat} {a w : World} (h : Below B a w) : ∀ n, Below B a (w.drewN n) := fun _ => ⟨h.os, h.tape, h.output, h.size, h.block⟩
theorem ins_c0 {i : Ins} {b : Nat} {w : World} (h : w.heap[b]? = some (.cells i.cells 25)) : w.cell? ⟨b, 0, none⟩ = some (.int .i64 i.op) := by
  rw [cell_of_row _ _ _ _ _ _ h]; rfl
theorem ins_c1 {i : Ins} {b : Nat} {w : World} (h : w.heap[b]? = some (.cells i.cells 25)) : w.cell? ⟨b, 1, none⟩ = some (.int .i64 i.sub) := by
  rw [cell_of_row _ _ _ _ _ _ h]; rfl
set_option maxRecDepth 4000 in
set_option maxHeartbeats 4000000 in
theorem isForm_c (F : Fm) (g o : Nat) (i : Ins) (w : World) (h : FmAt F g o w) :
    Calls Try.prog 18 #[.pointer (some ⟨g, o, none⟩), i.val] w fun e w' => e = .returned (.bool (isForm F i)) ∧ Below w.heap.size w w' := by
  have H := tg_start i h
  go_enter Try.func18, Try.ntmps18
  go_upto_region 1 with fail
  have c0 := H.fm.c0
  have c1 := H.fm.c1
  have d0 := ins_c0 H.box
  have d1 := ins_c1 H.box
  have HB := H.below
  generalize w.alloc _ = w1 at c0 c1 d0 d1 HB ⊢
  clear H
  by_cases e0 : F.op = i.op
  · have q0 : (F.op == i.op) = true := beq_iff_eq.2 e0
    by_cases e1 : F.sub = i.sub
    · have fin : isForm F i = true := by simp only [isForm, q0, beq_iff_eq.2 e1, Bool.true_and, Bool.true_or]
      clear q0
      go_quiet (fail)
      all_goals (go_wp2; go_ret; exact ⟨by rw [fin]; rfl, below_drewN HB _⟩)
    · have fin : isForm F i = (F.sub == i.sub || F.sub == -1) := by simp only [isForm, q0, Bool.true_and]
      have q1 : decide (F.sub = i.sub) = false := decide_eq_false e1
      go_quiet (fail)
      all_goals (go_wp2; go_ret; exact ⟨by rw [fin]; rfl, below_drewN HB _⟩)
  · have q0 : decide (F.op = i.op) = false := decide_eq_false e0
    have fin : isForm F i = false := by simp only [isForm, beq_eq_false_iff_ne.2 e0, Bool.false_and]
    go_quiet (fail)
    all_goals (go_wp2; go_ret; exact ⟨by rw [fin]; rfl, below_drewN HB _⟩)
end Go.Proofs.Ytcmilajlngnibaa
