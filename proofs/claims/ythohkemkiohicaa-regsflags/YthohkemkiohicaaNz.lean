/- Flags and conditions: what package regs, and the document's own answer, tell of them: contracts, for every state. -/
import Derived.Test.YthohkemkiohicaaGets
namespace Go.Proofs.Ythohkemkiohicaa
open Go.RowKit

def condB (cond : Int) : Bool := decide (0 ≤ cond) && decide (cond ≤ 15)
def condE (cond : Int) : Int := bif condB cond then 0 else 1
def holdsV (c : Cor) (cond : Int) : Bool := bif cond == 0 then c.z else bif cond == 1 then (!c.z) else bif cond == 2 then c.c else bif cond == 3 then (!c.c) else bif cond == 4 then c.n else bif cond == 5 then (!c.n) else bif cond == 6 then c.v else bif cond == 7 then (!c.v) else bif cond == 8 then (c.c && !c.z) else bif cond == 9 then (!(c.c && !c.z)) else bif cond == 10 then (c.n == c.v) else bif cond == 11 then (!(c.n == c.v)) else bif cond == 12 then (!c.z && (c.n == c.v)) else bif cond == 13 then (!(!c.z && (c.n == c.v))) else bif cond == 14 then true else bif cond == 15 then true else false
set_option maxHeartbeats 1000000 in
theorem Nzcv_c (c : Cor) (w : World) : Calls Try.prog 21 #[c.val] w fun e w' => e = .returned (vU (nzcvV c)) ∧ Below w.heap.size w w' := by
  go_enter Try.func21, Try.ntmps21
  go_upto_region 1 with fail
  go_quiet ((go_at_call 31; exact Calls.quiet_of_same (bitIf_c _ _ _)))
  go_wp2
  go_ret
  refine ⟨ret_int ?_, by repeat (first | exact Below.refl _ _ | apply below_more | apply below_drew | apply below_drewN)⟩
  unfold nzcvV
  cases c.n <;> cases c.z <;> cases c.c <;> cases c.v <;> rfl
set_option maxHeartbeats 1000000 in
theorem refNzcv_c (c : Cor) (w : World) : Calls Try.prog 22 #[c.val] w fun e w' => e = .returned (vU (nzcvV c)) ∧ Below w.heap.size w w' := by
  go_enter Try.func22, Try.ntmps22
  go_upto_region 1 with fail
  go_quiet ((go_at_call 32; exact Calls.quiet_of_same (one_c _ _ (by decide) _)))
  go_wp2
  go_ret
  refine ⟨ret_int ?_, by repeat (first | exact Below.refl _ _ | apply below_more | apply below_drew | apply below_drewN)⟩
  unfold nzcvV
  cases c.n <;> cases c.z <;> cases c.c <;> cases c.v <;> rfl
end Go.Proofs.Ythohkemkiohicaa
