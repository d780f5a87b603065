/- Small answers of the document: Access, Defines, shape. -/
import Derived.Test.YtilbnjldfgofmaaJb
namespace Go.Proofs.Ytilbnjldfgofmaa
open Go.RowKit
set_option linter.unusedVariables false
set_option linter.unusedSimpArgs false
set_option maxRecDepth 8000

def accB (k : Int) : Bool := k == 9 || k == 10 || k == 11 || k == 12
def defsB (k : Int) : Bool := k == 1 || k == 2 || k == 4 || k == 6 || k == 8 || k == 9 || k == 11 || k == 12
def leavB (k : Int) : Bool := accB k || (decide (15 ≤ k) && decide (k ≤ 18))
def shpV (k : Int) : Int := if k = 3 ∨ k = 5 ∨ k = 7 ∨ k = 9 ∨ k = 11 ∨ k = 15 ∨ k = 17 then 1 else if k = 8 ∨ k = 10 ∨ k = 12 then 2 else 0
theorem dIn_c (n a b : Int) (w : World) : Calls Try.prog 21 #[vI n, vI a, vI b] w fun e w' => e = .returned (.bool (decide (a ≤ n) && decide (n ≤ b))) ∧ w' = w := by
  go_enter Try.func21, Try.ntmps21
  by_cases h1 : a ≤ n <;> by_cases h2 : n ≤ b <;> (go_wp2; go_ret; refine ⟨ret_bool ?_, rfl⟩; simp [h1, h2] <;> omega)
set_option maxHeartbeats 1000000 in
theorem dAcc_c (o : Opr) (w : World) : Calls Try.prog 55 #[opV o] w fun e w' => e = .returned (.bool (accB o.kind)) ∧ Below w.heap.size w w' := by
  go_enter Try.func55, Try.ntmps55
  go_wp2
  all_goals (go_ret; refine ⟨ret_bool ?_, by repeat (first | exact Below.refl _ _ | apply below_more | apply below_drew | apply below_drewN)⟩; unfold accB; simp_all)
set_option maxHeartbeats 2000000 in
theorem dDefs_c (o : Opr) (w : World) : Calls Try.prog 24 #[opV o] w fun e w' => e = .returned (.bool (defsB o.kind)) ∧ Below w.heap.size w w' := by
  go_enter Try.func24, Try.ntmps24
  go_wp2
  all_goals (go_ret; refine ⟨ret_bool ?_, by repeat (first | exact Below.refl _ _ | apply below_more | apply below_drew | apply below_drewN)⟩; unfold defsB; simp_all)
set_option maxHeartbeats 1000000 in
theorem dShape_c (k : Int) (w : World) : Calls Try.prog 39 #[vI k] w fun e w' => e = .returned (vI (shpV k)) ∧ w' = w := by
  rcases (by omega : k = 3 ∨ k = 5 ∨ k = 7 ∨ k = 9 ∨ k = 11 ∨ k = 15 ∨ k = 17 ∨ k = 8 ∨ k = 10 ∨ k = 12 ∨ (k ≠ 3 ∧ k ≠ 5 ∧ k ≠ 7 ∧ k ≠ 9 ∧ k ≠ 11 ∧ k ≠ 15 ∧ k ≠ 17 ∧ k ≠ 8 ∧ k ≠ 10 ∧ k ≠ 12)) with rfl | rfl | rfl | rfl | rfl | rfl | rfl | rfl | rfl | rfl | ⟨h3, h5, h7, h9, h11, h15, h17, h8, h10, h12⟩
  · go_enter Try.func39, Try.ntmps39
    go_wp2
    go_ret
    exact ⟨rfl, rfl⟩
  · go_enter Try.func39, Try.ntmps39
    go_wp2
    go_ret
    exact ⟨rfl, rfl⟩
  · go_enter Try.func39, Try.ntmps39
    go_wp2
    go_ret
    exact ⟨rfl, rfl⟩
  · go_enter Try.func39, Try.ntmps39
    go_wp2
    go_ret
    exact ⟨rfl, rfl⟩
  · go_enter Try.func39, Try.ntmps39
    go_wp2
    go_ret
    exact ⟨rfl, rfl⟩
  · go_enter Try.func39, Try.ntmps39
    go_wp2
    go_ret
    exact ⟨rfl, rfl⟩
  · go_enter Try.func39, Try.ntmps39
    go_wp2
    go_ret
    exact ⟨rfl, rfl⟩
  · go_enter Try.func39, Try.ntmps39
    go_wp2
    go_ret
    exact ⟨rfl, rfl⟩
  · go_enter Try.func39, Try.ntmps39
    go_wp2
    go_ret
    exact ⟨rfl, rfl⟩
  · go_enter Try.func39, Try.ntmps39
    go_wp2
    go_ret
    exact ⟨rfl, rfl⟩
  · have hv : shpV k = 0 := by unfold shpV; rw [if_neg (by omega), if_neg (by omega)]
    rw [hv]
    have e3 : (k == 3) = false := by simp [h3]
    have e5 : (k == 5) = false := by simp [h5]
    have e7 : (k == 7) = false := by simp [h7]
    have e9 : (k == 9) = false := by simp [h9]
    have e11 : (k == 11) = false := by simp [h11]
    have e15 : (k == 15) = false := by simp [h15]
    have e17 : (k == 17) = false := by simp [h17]
    have e8 : (k == 8) = false := by simp [h8]
    have e10 : (k == 10) = false := by simp [h10]
    have e12 : (k == 12) = false := by simp [h12]
    clear hv h3 h5 h7 h9 h11 h15 h17 h8 h10 h12
    go_enter Try.func39, Try.ntmps39
    go_wp2
    go_ret
    exact ⟨rfl, rfl⟩
end Go.Proofs.Ytilbnjldfgofmaa
