/- What package regs and the document tell of a state and make of it, as far as chapter 7 asks it: contracts, for every state. -/
import Derived.Test.YtdlnmjlgfjlmkaaNum
import Derived.Test.YtdlnmjlgfjlmkaaEqc
namespace Go.Proofs.Ytdlnmjlgfjlmkaa
open Go.RowKit

theorem ret_ub {k : IntKind} {a b : Int} {c d : Bool} (h : a = b) (h' : c = d) : Ending.returned (.tuple #[.int k a, .bool c]) = .returned (.tuple #[.int k b, .bool d]) := by rw [h, h']
theorem ret_bi {k : IntKind} {a b : Int} {c d : Bool} (h : c = d) (h' : a = b) : Ending.returned (.tuple #[.bool c, .int k a]) = .returned (.tuple #[.bool d, .int k b]) := by rw [h, h']
theorem ret_bb {a b c d : Bool} (h : c = d) (h' : a = b) : Ending.returned (.tuple #[.bool c, .bool a]) = .returned (.tuple #[.bool d, .bool b]) := by rw [h, h']
def rightC (c : Cor) : Bool := (c.el == 0 || c.el == 1) && decide (0 ≤ c.wait) && decide (c.wait ≤ 2) && decide (0 ≤ c.id) && decide (c.id ≤ 7)
def nzcvV (c : Cor) : Int := (bif c.n then 2147483648 else 0) + (bif c.z then 1073741824 else 0) + (bif c.c then 536870912 else 0) + (bif c.v then 268435456 else 0)
set_option maxHeartbeats 400000 in
theorem bitIf_c (b : Bool) (k : Int) (w : World) : Calls Try.prog 30 #[.bool b, vU k] w fun e w' => e = .returned (vU (bif b then k else 0)) ∧ w' = w := by
  cases b
  all_goals
    go_enter Try.func30, Try.ntmps30
    go_wp2
    go_ret
    exact ⟨rfl, rfl⟩
def pw (k : Int) : Int := bif k == 31 then 2147483648 else bif k == 30 then 1073741824 else bif k == 29 then 536870912 else bif k == 28 then 268435456 else 128
set_option maxHeartbeats 400000 in
theorem one_c (b : Bool) (k : Int) (h : k = 31 ∨ k = 30 ∨ k = 29 ∨ k = 28 ∨ k = 7) (w : World) : Calls Try.prog 31 #[.bool b, vI k] w fun e w' => e = .returned (vU (bif b then pw k else 0)) ∧ w' = w := by
  rcases h with rfl | rfl | rfl | rfl | rfl <;> cases b
  all_goals
    go_enter Try.func31, Try.ntmps31
    go_wp2
    go_ret
    exact ⟨rfl, rfl⟩
set_option maxHeartbeats 1000000 in
theorem Right_c (c : Cor) (w : World) : Calls Try.prog 19 #[c.val] w fun e w' => e = .returned (.bool (rightC c)) ∧ Below w.heap.size w w' := by
  go_enter Try.func19, Try.ntmps19
  go_wp2_with (go_at_call 28; refine (isLevel_c _ _).mono ?_; rintro e w' ⟨rfl, rfl⟩)
  all_goals (go_ret; refine ⟨ret_bool ?_, by repeat (first | exact Below.refl _ _ | apply below_more | apply below_drew | apply below_drewN)⟩; unfold rightC; first | (simp_all; done) | (simp_all; omega) | (simp_all; rw [show decide (c.id < 8) = decide (c.id ≤ 7) from decide_eq_decide.2 (by omega)]))
set_option maxHeartbeats 1000000 in
theorem refRight_c (c : Cor) (w : World) : Calls Try.prog 22 #[c.val] w fun e w' => e = .returned (.bool (rightC c)) ∧ Below w.heap.size w w' := by
  go_enter Try.func22, Try.ntmps22
  go_wp2
  all_goals (go_ret; refine ⟨ret_bool ?_, by repeat (first | exact Below.refl _ _ | apply below_more | apply below_drew | apply below_drewN)⟩; unfold rightC; first | (simp_all; done) | (simp_all; omega) | (simp_all; rw [show decide (c.id < 8) = decide (c.id ≤ 7) from decide_eq_decide.2 (by omega)]))
set_option maxHeartbeats 1000000 in
theorem Nzcv_c (c : Cor) (w : World) : Calls Try.prog 24 #[c.val] w fun e w' => e = .returned (vU (nzcvV c)) ∧ Below w.heap.size w w' := by
  go_enter Try.func24, Try.ntmps24
  go_upto_region 1 with fail
  go_quiet ((go_at_call 30; exact Calls.quiet_of_same (bitIf_c _ _ _)))
  go_wp2
  go_ret
  refine ⟨ret_int ?_, by repeat (first | exact Below.refl _ _ | apply below_more | apply below_drew | apply below_drewN)⟩
  unfold nzcvV
  cases c.n <;> cases c.z <;> cases c.c <;> cases c.v <;> rfl
set_option maxHeartbeats 1000000 in
theorem refNzcv_c (c : Cor) (w : World) : Calls Try.prog 25 #[c.val] w fun e w' => e = .returned (vU (nzcvV c)) ∧ Below w.heap.size w w' := by
  go_enter Try.func25, Try.ntmps25
  go_upto_region 1 with fail
  go_quiet ((go_at_call 31; exact Calls.quiet_of_same (one_c _ _ (by decide) _)))
  go_wp2
  go_ret
  refine ⟨ret_int ?_, by repeat (first | exact Below.refl _ _ | apply below_more | apply below_drew | apply below_drewN)⟩
  unfold nzcvV
  cases c.n <;> cases c.z <;> cases c.c <;> cases c.v <;> rfl
theorem tm_bit {v : Int} (h : U64 v) (m : Int) (k : Nat) (hm : m = 2 ^ k) : ((v / m).tmod 2 == 1) = bitB v k := by
  subst hm
  unfold bitB
  rw [Int.tmod_eq_emod_of_nonneg (Int.ediv_nonneg h.1 (Int.le_of_lt (Int.pow_pos (by decide))))]
theorem tm_31 {v : Int} (h : U64 v) : ((v / 2147483648).tmod 2 == 1) = bitB v 31 := tm_bit h _ 31 rfl
theorem tm_30 {v : Int} (h : U64 v) : ((v / 1073741824).tmod 2 == 1) = bitB v 30 := tm_bit h _ 30 rfl
theorem tm_29 {v : Int} (h : U64 v) : ((v / 536870912).tmod 2 == 1) = bitB v 29 := tm_bit h _ 29 rfl
theorem tm_28 {v : Int} (h : U64 v) : ((v / 268435456).tmod 2 == 1) = bitB v 28 := tm_bit h _ 28 rfl
theorem tm_7 {v : Int} (h : U64 v) : ((v / 128).tmod 2 == 1) = bitB v 7 := tm_bit h _ 7 rfl
theorem built_some : (Try.prog.built 26 []).isSome = true := by kernel_rfl
theorem built_nil : (Try.prog.built 26 []).getD #[] = nilC.cells := by kernel_rfl
theorem wpList_build_nil {ops : Array Oper} {rest : List Oper} {o : Oper} {a : Act} {w : World} {Q : Exit → Act → World → Prop} (hw : Region.wanted o (yielded ops a.tmps) = true) (ho : o.op = .build 26 #[])
    (h : wpList Try.prog ops Q rest (a.put o.dst nilC.val) w) : wpList Try.prog ops Q (o :: rest) a w := by
  have e : (Array.map (fun x : Nat × Operand => match x with | (i, x) => (i, a.eval x)) #[]).toList = [] := by simp
  refine BigFrame.wpList_want hw fun K hK => wp_build 26 #[] ho (by rw [e]; exact built_some) ?_
  refine hK _ _ ?_
  rw [e, built_nil]
  exact h
def setNzcvV (c : Cor) (u : Int) : Cor := { c with n := bitB u 31, z := bitB u 30, c := bitB u 29, v := bitB u 28 }
set_option maxHeartbeats 1000000 in
theorem SetNzcv_c (c : Cor) (v : Int) (hv : Hid (U64 v)) (w : World) : Calls Try.prog 32 #[c.val, vU v] w fun e w' => e = .returned (setNzcvV c v).val ∧ Below w.heap.size w w' := by
  have e31 := and_31 hv.out
  have e30 := and_30 hv.out
  have e29 := and_29 hv.out
  have e28 := and_28 hv.out
  go_enter Try.func32, Try.ntmps32
  go_upto_region 3 with fail
  go_step
  with_reducible refine wpList_load_row rfl 26 _ rfl _ rfl 26 _ (0, 0) _ (heap_alloc2_old _ _ _) Try.underlying26 rfl (Cor.info _) ?_
  simp only [Act.put, List.setIfInBounds_toArray, List.set_cons_succ, List.set_cons_zero]
  with_reducible refine wpList_store_row rfl 26 _ _ rfl _ _ rfl rfl 26 _ (heap_alloc2_new _ _ _) (Cor.info _) ?_ (Cor.one _) ?_
  focus (rw [Cor.size]; rfl)
  go_wp2
  refine bodyPost_ret (back_one rfl _ _ _ _ _ _ rfl (setRow_heap _ _ _ _ _ _ (heap_alloc2_new _ _ _))) rfl ?_
  exact ⟨rfl, by repeat (first | exact Below.refl _ _ | apply below_more | apply below_drew | apply below_drewN | (refine below_setRow ?_ (by simp)))⟩
set_option maxHeartbeats 1000000 in
theorem refSetNzcv_c (c : Cor) (v : Int) (hv : Hid (U64 v)) (w : World) : Calls Try.prog 27 #[c.val, vU v] w fun e w' => e = .returned (setNzcvV c v).val ∧ Below w.heap.size w w' := by
  have e31 := tm_31 hv.out
  have e30 := tm_30 hv.out
  have e29 := tm_29 hv.out
  have e28 := tm_28 hv.out
  go_enter Try.func27, Try.ntmps27
  go_upto_region 5 with fail
  go_step
  with_reducible refine wpList_load_row rfl 26 _ rfl _ rfl 26 _ (0, 0) _ (heap_alloc2_old _ _ _) Try.underlying26 rfl (Cor.info _) ?_
  simp only [Act.put, List.setIfInBounds_toArray, List.set_cons_succ, List.set_cons_zero]
  with_reducible refine wpList_store_row rfl 26 _ _ rfl _ _ rfl rfl 26 _ (heap_alloc2_new _ _ _) (Cor.info _) ?_ (Cor.one _) ?_
  focus (rw [Cor.size]; rfl)
  go_wp2
  refine bodyPost_ret (back_one rfl _ _ _ _ _ _ rfl (setRow_heap _ _ _ _ _ _ (heap_alloc2_new _ _ _))) rfl ?_
  exact ⟨rfl, by repeat (first | exact Below.refl _ _ | apply below_more | apply below_drew | apply below_drewN | (refine below_setRow ?_ (by simp)))⟩
end Go.Proofs.Ytdlnmjlgfjlmkaa
