/- For all numbers: sums and products of package alu are those of numbers that wrap, what was added is taken away again, a quotient and what is left make the number: AluLaws returns true, whatever its arguments. -/
import Derived.Test.YtakmnbahogogiaaExs
import Derived.Test.YtakmnbahogogiaaFlat
import Derived.Test.YtakmnbahogogiaaLaw
namespace Go.Proofs.Ytakmnbahogogiaa.aluLaws
open Go.ChangeShapes Go.WideShapes Go.ChangeAt Go.RowKit
set_option linter.unusedVariables false

theorem own : ownKnob Try.prog.godebug = none := by kernel_rfl
theorem u64_of {a : Int} (h : (Lit.int .u64 a).wf = true) : Hid (U64 a) := by
  have := bounds_u64 h
  exact ⟨this.1, by omega⟩
theorem reck_c (k a b : Int) (ha : Hid (U64 a)) (hb : Hid (U64 b)) (w : World) :
    Calls Try.prog 18 #[.int .i64 k, .int .u64 a, .int .u64 b] w fun e w' => e = .returned (.int .u64 (reckonV k a b)) ∧ Below w.heap.size w w' := by
  have H := has_none w
  go_enter Try.func18, Try.ntmps18
  go_wp2_with (go_at_call 10; refine (Reckon_c _ _ _ ha hb _).mono ?_; rintro e w1 ⟨rfl, hx⟩; replace H := H.grow hx; clear hx; dsimp only)
  go_ret
  exact ⟨rfl, H.below⟩
set_option maxRecDepth 4000 in
set_option maxHeartbeats 4000000 in
theorem walk (a0 : Int) (a1 : Int) (a2 : Int) (w0 : (Lit.int .u64 a0).wf = true) (w1 : (Lit.int .u64 a1).wf = true) (w2 : (Lit.int .u64 a2).wf = true) (w : World) :
    Calls Try.prog 6 #[.int .u64 a0, .int .u64 a1, .int .u64 a2] w fun e w' => e = .returned (.bool true) ∧ Below w.heap.size w w' := by
  have ha := u64_of w0
  have hb := u64_of w1
  have hc := u64_of w2
  clear w0 w1 w2
  have H := has_none w
  have hx0 : Hid (U64 (sumV a0 a1 false)) := sum_in _ _ _
  have hx1 : Hid (U64 (reckonV 1 a1 a2)) := reckon_in hb.out hc.out
  have hx2 : Hid (U64 (reckonV 6 a0 a1)) := reckon_in ha.out hb.out
  have hx3 : Hid (U64 (reckonV 6 a0 a2)) := reckon_in ha.out hc.out
  have hx4 : Hid (U64 (reckonV 5 a0 a1)) := reckon_in ha.out hb.out
  have hx5 : Hid (U64 (IntKind.u64.wrap (-a0))) := by
    show U64 _
    rw [wrapU]
    constructor <;> omega
  have hA : ∀ w, Calls Try.prog 12 #[.int .u64 a1, .int .u64 a0, .bool false] w fun e w' => e = .returned (.tuple #[.int .u64 (sumV a0 a1 false), (addF a0 a1 false).val]) ∧ Below w.heap.size w w' := fun w => by
    have h := Add_c a1 a0 false hb ha w
    rwa [(law_comm a0 a1).1, (law_comm a0 a1).2] at h
  have f1 : (sumV a0 a1 false != reckonV 1 a0 a1) = false := by rw [(law_add (b := a1) ha.out).1]; simp
  have f2 : (reckonV 2 (sumV a0 a1 false) a1 != a0) = false := by rw [(law_add (b := a1) ha.out).2]; simp
  have f3 : (reckonV 6 a0 (reckonV 1 a1 a2) != reckonV 1 (reckonV 6 a0 a1) (reckonV 6 a0 a2)) = false := by rw [law_mul]; simp
  have f7 : (reckonV 5 (reckonV 5 a0 a1) a1 == a0) = true := by rw [(law_bits ha.out hb.out).1]; simp
  have f8 : (IntKind.u64.wrap (reckonV 4 a0 a1 + reckonV 3 a0 a1) == IntKind.u64.wrap (a0 + a1)) = true := by rw [(law_bits ha.out hb.out).2]; simp
  by_cases hz : a1 = 0
  · have z1 : (a1 == 0) = true := by simpa using hz
    have z2 : (a1 != 0) = false := by simpa using hz
    have z3 : (reckonV 7 a0 a1 != 0) = false := by
      subst hz
      simp [reckonV]
    clear hz
    go_enter Try.func6, Try.ntmps6
    go_upto_region 3 with (first | (go_at_call 9; refine (examples_c _).mono ?_; rintro e w1 ⟨rfl, hx⟩; replace H := H.grow hx; clear hx; dsimp only) | (go_at_call 12; refine (Add_c _ _ _ ha hb _).mono ?_; rintro e w1 ⟨rfl, hx⟩; replace H := H.grow hx; clear hx; dsimp only) | ((with_reducible refine wpList_new31 H rfl _ _ rfl _ rfl rfl ?_); intro w2 H; try simp only [Act.put]))
    go_upto_region 4 with (first | (go_at_call 12; refine (hA _).mono ?_; rintro e w1 ⟨rfl, hx⟩; replace H := H.grow hx; clear hx; dsimp only) | ((with_reducible refine wpList_new31 H rfl _ _ rfl _ rfl rfl ?_); intro w2 H; try simp only [Act.put]))
    go_wp2_with (first | (go_at_call 18; refine (reck_c _ _ _ (by assumption) (by assumption) _).mono ?_; rintro e w1 ⟨rfl, hx⟩; replace H := H.grow hx; clear hx; dsimp only) | ((with_reducible refine wpList_load_if rfl 31 _ rfl _ rfl 31 _ (0, 0) _ (H.get (by first | exact List.mem_cons_self | exact List.mem_cons_of_mem _ (List.mem_cons_self) | exact List.mem_cons_of_mem _ (List.mem_cons_of_mem _ (List.mem_cons_self)) | exact List.mem_cons_of_mem _ (List.mem_cons_of_mem _ (List.mem_cons_of_mem _ (List.mem_cons_self))))) Try.underlying31 rfl (four31 _ _ _ _) ?_); simp only [Act.put, List.setIfInBounds_toArray, List.set_cons_succ, List.set_cons_zero]) | ((with_reducible refine wpList_neq_flg rfl _ _ rfl (addF a0 a1 false) (addF a0 a1 false) ?_ ?_ true (eqF_refl _) ?_); (focus rfl); (focus rfl); simp only [Act.put, List.setIfInBounds_toArray, List.set_cons_succ, List.set_cons_zero, Bool.not_true]))
    go_ret
    exact ⟨rfl, H.below⟩
  · have z1 : (a1 == 0) = false := by simpa using hz
    have z2 : (a1 != 0) = true := by simpa using hz
    have z4 := (law_div ha.out hb.out hz).1
    have z5 := (law_div ha.out hb.out hz).2
    by_cases hm : a0 = 9223372036854775808
    · have m1 : (a0 == 9223372036854775808) = true := by simpa using hm
      clear hz hm
      go_enter Try.func6, Try.ntmps6
      go_upto_region 3 with (first | (go_at_call 9; refine (examples_c _).mono ?_; rintro e w1 ⟨rfl, hx⟩; replace H := H.grow hx; clear hx; dsimp only) | (go_at_call 12; refine (Add_c _ _ _ ha hb _).mono ?_; rintro e w1 ⟨rfl, hx⟩; replace H := H.grow hx; clear hx; dsimp only) | ((with_reducible refine wpList_new31 H rfl _ _ rfl _ rfl rfl ?_); intro w2 H; try simp only [Act.put]))
      go_upto_region 4 with (first | (go_at_call 12; refine (hA _).mono ?_; rintro e w1 ⟨rfl, hx⟩; replace H := H.grow hx; clear hx; dsimp only) | ((with_reducible refine wpList_new31 H rfl _ _ rfl _ rfl rfl ?_); intro w2 H; try simp only [Act.put]))
      go_wp2_with (first | (go_at_call 18; refine (reck_c _ _ _ (by assumption) (by assumption) _).mono ?_; rintro e w1 ⟨rfl, hx⟩; replace H := H.grow hx; clear hx; dsimp only) | ((with_reducible refine wpList_load_if rfl 31 _ rfl _ rfl 31 _ (0, 0) _ (H.get (by first | exact List.mem_cons_self | exact List.mem_cons_of_mem _ (List.mem_cons_self) | exact List.mem_cons_of_mem _ (List.mem_cons_of_mem _ (List.mem_cons_self)) | exact List.mem_cons_of_mem _ (List.mem_cons_of_mem _ (List.mem_cons_of_mem _ (List.mem_cons_self))))) Try.underlying31 rfl (four31 _ _ _ _) ?_); simp only [Act.put, List.setIfInBounds_toArray, List.set_cons_succ, List.set_cons_zero]) | ((with_reducible refine wpList_neq_flg rfl _ _ rfl (addF a0 a1 false) (addF a0 a1 false) ?_ ?_ true (eqF_refl _) ?_); (focus rfl); (focus rfl); simp only [Act.put, List.setIfInBounds_toArray, List.set_cons_succ, List.set_cons_zero, Bool.not_true]))
      all_goals (go_ret; refine ⟨ret_bool ?_, H.below⟩; first | rfl | simp_all)
    · have m2 : (reckonV 8 (IntKind.u64.wrap (-a0)) a1 == IntKind.u64.wrap (-(reckonV 8 a0 a1))) = true := by rw [law_sdiv ha.out hz hm]; simp
      clear hz hm
      go_enter Try.func6, Try.ntmps6
      go_upto_region 3 with (first | (go_at_call 9; refine (examples_c _).mono ?_; rintro e w1 ⟨rfl, hx⟩; replace H := H.grow hx; clear hx; dsimp only) | (go_at_call 12; refine (Add_c _ _ _ ha hb _).mono ?_; rintro e w1 ⟨rfl, hx⟩; replace H := H.grow hx; clear hx; dsimp only) | ((with_reducible refine wpList_new31 H rfl _ _ rfl _ rfl rfl ?_); intro w2 H; try simp only [Act.put]))
      go_upto_region 4 with (first | (go_at_call 12; refine (hA _).mono ?_; rintro e w1 ⟨rfl, hx⟩; replace H := H.grow hx; clear hx; dsimp only) | ((with_reducible refine wpList_new31 H rfl _ _ rfl _ rfl rfl ?_); intro w2 H; try simp only [Act.put]))
      go_wp2_with (first | (go_at_call 18; refine (reck_c _ _ _ (by assumption) (by assumption) _).mono ?_; rintro e w1 ⟨rfl, hx⟩; replace H := H.grow hx; clear hx; dsimp only) | ((with_reducible refine wpList_load_if rfl 31 _ rfl _ rfl 31 _ (0, 0) _ (H.get (by first | exact List.mem_cons_self | exact List.mem_cons_of_mem _ (List.mem_cons_self) | exact List.mem_cons_of_mem _ (List.mem_cons_of_mem _ (List.mem_cons_self)) | exact List.mem_cons_of_mem _ (List.mem_cons_of_mem _ (List.mem_cons_of_mem _ (List.mem_cons_self))))) Try.underlying31 rfl (four31 _ _ _ _) ?_); simp only [Act.put, List.setIfInBounds_toArray, List.set_cons_succ, List.set_cons_zero]) | ((with_reducible refine wpList_neq_flg rfl _ _ rfl (addF a0 a1 false) (addF a0 a1 false) ?_ ?_ true (eqF_refl _) ?_); (focus rfl); (focus rfl); simp only [Act.put, List.setIfInBounds_toArray, List.set_cons_succ, List.set_cons_zero, Bool.not_true]))
      go_ret
      exact ⟨rfl, H.below⟩

set_option maxRecDepth 100000 in
theorem lifted (os : Os) (started : os.Started) (H : Type) (enc : TypeId × Value → H) :
    ReturnsInHanded {} Try.checked os 6 .any (Rows.aluLawsSpec.pre6 enc Try.prog Try.f6 Rows.aluLawsRow.domain false) (Rows.aluLawsSpec.post enc Try.prog Try.f6 false true false false) := by
  refine returnsInHanded_of_change (C := Try.checked) own started (by kernel_rfl) Try.func6
    (ChangeSpec.witness6 (enc := enc) (C := Try.checked) false ⟨#[], #[.int .u64 0, .int .u64 0, .int .u64 0], []⟩ 8 (by kernel_rfl) (by kernel_rfl) (by kernel_rfl) (by kernel_rfl)) ?_
  intro W base args ds gs before hval0 hW hcnd _
  have hval : ∀ (j : Nat) t v, Try.f6.params[j]? = some t → args[j]? = some v → Value.okWide Try.prog W .any base t v := hval0
  have hW' := hW
  obtain ⟨p, q, hA0, hV, rfl, hfz, hnd⟩ := hW
  have hA : DataW.TrodAll enc Try.prog W 0 (fun _ => true) true Try.f6.params.toList args.toList ds p := hA0
  rw [Try.params6] at hA hval
  obtain ⟨v0, vs0, d0, ds0, p0, q0, hargs, rfl, rfl, h0, r0⟩ := trodAll_cons hA
  obtain ⟨v1, vs1, d1, ds1, p1, q1, rfl, rfl, rfl, h1, r1⟩ := trodAll_cons r0
  obtain ⟨v2, vs2, d2, ds2, p2, q2, rfl, rfl, rfl, h2, r2⟩ := trodAll_cons r1
  obtain ⟨rfl, rfl, rfl⟩ := trodAll_nil r2
  obtain rfl : args = #[v0, v1, v2] := by cases args; simp_all
  obtain ⟨rfl, rfl⟩ := trodVars_none hV
  obtain ⟨a0, rfl, rfl, rfl, w0⟩ := open_int Try.underlying22 (hval 0 22 v0 rfl rfl) h0
  obtain ⟨a1, rfl, rfl, rfl, w1⟩ := open_int Try.underlying22 (hval 1 22 v1 rfl rfl) h1
  obtain ⟨a2, rfl, rfl, rfl, w2⟩ := open_int Try.underlying22 (hval 2 22 v2 rfl rfl) h2
  clear hA0 hval0
  simp only [List.append_nil] at hW'
  refine (walk a0 a1 a2 w0 w1 w2 W).mono fun e W' ⟨he, hb⟩ => ?_
  subst he
  exact ⟨_, rfl, post_flat hW' (fun _ _ _ => (trodAll_cons_mk (shut_bool Try.underlying4 _) trodAll_mk0)) (fun sp => (trodAll_cons_mk (shut_int Try.underlying22 w0) (trodAll_cons_mk (shut_int Try.underlying22 w1) (trodAll_cons_mk (shut_int Try.underlying22 w2) trodAll_mk0)))) (fun _ => rfl) (fun may => hb.frame may) (ok_one (by kernel_rfl) rfl (okWide_bool_mk Try.underlying4 _))⟩

theorem over : Rows.aluLawsRow.holds Try.pinned (OpenSpec.ofChange Rows.aluLawsSpec) :=
  OpenClaim.holds_of_wide 6 Try.f6 rfl rfl rfl rfl rfl rfl rfl ⟨rfl, rfl, rfl, rfl, rfl⟩ rfl rfl rfl rfl rfl (by kernel_rfl) Try.func6 (by kernel_rfl)
    (of_decide_eq_true (by kernel_rfl)) (by unfold Func.isWrapper; first | (rw [if_pos (by decide +kernel)]; kernel_rfl) | (rw [if_neg (by decide +kernel)]; exact ⟨rfl, rfl⟩))
    (fun os started H enc _ => lifted os started H enc)

theorem proved : Rows.AluLawsSaid :=
  over
end Go.Proofs.Ytakmnbahogogiaa.aluLaws

namespace Go.Proofs.Ytakmnbahogogiaa
theorem aluLaws_holds : Rows.AluLawsSaid := aluLaws.proved
#print axioms aluLaws_holds
end Go.Proofs.Ytakmnbahogogiaa
