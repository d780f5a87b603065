/- What the document tells of any operation: may the block be left there. -/
import Derived.Test.YtilbnjldfgofmaaDn
namespace Go.Proofs.Ytilbnjldfgofmaa
open Go.RowKit
set_option linter.unusedVariables false
set_option linter.unusedSimpArgs false
set_option maxRecDepth 8000

set_option maxHeartbeats 2000000 in
theorem dLeaves_c (o : Opr) (w : World) : Calls Try.prog 30 #[opV o] w fun e w' => e = .returned (.bool (leavB o.kind)) ∧ Below w.heap.size w w' := by
  have hb := below_alloc w (.cells (opA o) 40)
  have L : LocO w.heap.size o (w.alloc (.cells (opA o) 40)) := LocO.new w _
  have ks := fun x => dAcc_c o x
  go_enter Try.func30, Try.ntmps30
  go_upto_region 1 with fail
  generalize w.alloc (.cells (opA o) 40) = w1 at *
  go_wp2_with (first | ((with_reducible refine wpList_load42 rfl _ rfl _ rfl _ (L.at_) ?_); try simp only [Act.put]) | (go_at_call 55; (with_reducible refine (ks _).mono ?_); rintro e w2 ⟨rfl, B⟩; dsimp only; replace hb := below_then hb (Nat.le_refl _) B; replace L := L.grow B; clear B; have z0 := L.c0))
  all_goals (go_ret; refine ⟨ret_bool ?_, hb⟩; unfold leavB; simp_all <;> omega)
theorem has_none64 {k : Int} (h : isK k = false) : hasP k 64 = false := by
  have : k.toNat = 0 ∨ 18 < k.toNat := by
    unfold isK at h
    simp only [Bool.and_eq_false_iff, decide_eq_false_iff_not] at h
    omega
  unfold hasP partsV
  rw [prt_none this]
  decide +kernel
theorem leav_has (k : Int) : leavB k = hasP k 64 := by
  cases h : isK k with
  | true =>
    rcases isK_cases h with rfl | rfl | rfl | rfl | rfl | rfl | rfl | rfl | rfl | rfl | rfl | rfl | rfl | rfl | rfl | rfl | rfl | rfl <;> decide +kernel
  | false =>
    rw [has_none64 h]
    have hn : ∀ j : Int, isK j = true → (k == j) = false := fun j hj => by
      cases hh : k == j with
      | false => rfl
      | true => rw [beq_iff_eq] at hh; rw [hh, hj] at h; cases h
    unfold leavB accB
    rw [hn 9 (by decide), hn 10 (by decide), hn 11 (by decide), hn 12 (by decide)]
    simp only [isK, Bool.and_eq_false_iff, decide_eq_false_iff_not] at h
    simp only [Bool.or_false, Bool.false_or, Bool.and_eq_false_iff, decide_eq_false_iff_not]
    omega
end Go.Proofs.Ytilbnjldfgofmaa
