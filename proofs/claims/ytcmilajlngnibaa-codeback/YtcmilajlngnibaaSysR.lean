/- Whether the system register and the form of an instruction are right: contracts. -/
import Derived.Test.YtcmilajlngnibaaRoom
namespace Go.Proofs.Ytcmilajlngnibaa
open Go.RowKit Go.Rel

def sysB (n : Int) : Bool := n == 17920 || n == 16897 || n == 16896 || n == 17040 || n == 17152 || n == 16904 || n == 16389 || n == 16914 || n == 23057 || n == 23056 || n == 24194 || n == 18016 || n == 18017 || n == 16944 || n == 18013 || n == 24322 || n == 24345 || n == 24346
def rightSysB (op sys : Int) : Bool := bif op != 31 && op != 32 then sys == 0 else sysB sys
def rightFormB (op sub amount imm imm2 : Int) : Bool := bif op == 4 then maskE amount imm imm2 == 0 else bif op == 5 then sub != 1 else true


set_option maxHeartbeats 4000000 in
theorem rightSys_c (i : Ins) (w : World) :
    Calls Try.prog 55 #[i.val] w fun e w' => e = .returned (.bool (rightSysB i.op i.sys)) ∧ Below w.heap.size w w' := by
  obtain ⟨op, sub, rd, rn, rm, ra, imm, imm2, amount, shift, cond, sys, flags, minus, not, link⟩ := i
  by_cases h31 : op = 31
  · subst h31
    have hR : Hid (rightSysB 31 sys = sysB sys) := rfl
    go_enter Try.func55, Try.ntmps55
    go_wp2
    all_goals (go_ret; refine ⟨ret_bool ?_, by repeat (first | exact Below.refl _ _ | apply below_more)⟩; rw [hR.out]; simp only [sysB, Bool.or_true, Bool.true_or, Bool.or_false, *])
  · by_cases h32 : op = 32
    · subst h32
      have hR : Hid (rightSysB 32 sys = sysB sys) := rfl
      go_enter Try.func55, Try.ntmps55
      go_wp2
      all_goals (go_ret; refine ⟨ret_bool ?_, by repeat (first | exact Below.refl _ _ | apply below_more)⟩; rw [hR.out]; simp only [sysB, Bool.or_true, Bool.true_or, Bool.or_false, *])
    · have g1 : (op != 31) = true := by simpa using h31
      have g2 : (op != 32) = true := by simpa using h32
      have hR : Hid (rightSysB op sys = (sys == 0)) := by show _ = _; unfold rightSysB; rw [g1, g2]; rfl
      go_enter Try.func55, Try.ntmps55
      go_wp2
      go_ret
      exact ⟨ret_bool hR.out.symm, below_alloc _ _⟩

set_option maxHeartbeats 4000000 in
theorem maskOf_c (i : Ins) (w : World) :
    Calls Try.prog 79 #[i.val] w fun e w' => e = .returned (.tuple #[.int .u64 (maskV i.amount i.imm i.imm2), .int .i64 (maskE i.amount i.imm i.imm2)]) ∧ Below w.heap.size w w' := by
  obtain ⟨op, sub, rd, rn, rm, ra, imm, imm2, amount, shift, cond, sys, flags, minus, not, link⟩ := i
  go_enter Try.func79, Try.ntmps79
  go_wp2_with (go_at_call 88; refine (mask_c _ _ _ _).mono ?_; rintro e w' ⟨rfl, m, rfl⟩)
  go_ret2
  exact ⟨rfl, below_draws (below_alloc _ _)⟩

set_option maxHeartbeats 4000000 in
theorem rightForm_c (i : Ins) (w : World) :
    Calls Try.prog 56 #[i.val] w fun e w' => e = .returned (.bool (rightFormB i.op i.sub i.amount i.imm i.imm2)) ∧ Below w.heap.size w w' := by
  obtain ⟨op, sub, rd, rn, rm, ra, imm, imm2, amount, shift, cond, sys, flags, minus, not, link⟩ := i
  go_enter Try.func56, Try.ntmps56
  go_wp2_with (go_at_call 79; refine (maskOf_c ⟨_, _, _, _, _, _, _, _, _, _, _, _, _, _, _, _⟩ _).mono ?_; rintro e w' ⟨rfl, hb⟩)
  · go_ret
    refine ⟨ret_bool ?_, below_then (below_alloc _ _) hb⟩
    simp only [rightFormB, cond_true, *]
  · go_ret
    refine ⟨ret_bool ?_, below_alloc _ _⟩
    simp only [rightFormB, cond_true, cond_false, *]
  · go_ret
    refine ⟨ret_bool ?_, below_alloc _ _⟩
    simp only [rightFormB, cond_false, *]
end Go.Proofs.Ytcmilajlngnibaa
