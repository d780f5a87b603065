/- Of all two numbers package alu tells which is less, with and without signs, just as the flags of their difference say: AluCompares returns true, whatever its arguments. -/
import Derived.Test.YtakmnbahogogiaaExs
import Derived.Test.YtakmnbahogogiaaFlat
import Derived.Test.YtakmnbahogogiaaLaw
namespace Go.Proofs.Ytakmnbahogogiaa.aluCompares
open Go.ChangeShapes Go.WideShapes Go.ChangeAt Go.RowKit
set_option linter.unusedVariables false

theorem own : ownKnob Try.prog.godebug = none := by kernel_rfl
theorem u64_of {a : Int} (h : (Lit.int .u64 a).wf = true) : Hid (U64 a) := by
  have := bounds_u64 h
  exact ⟨this.1, by omega⟩
theorem reck_c (k a b : Int) (ha : Hid (U64 a)) (hb : Hid (U64 b)) (w : World) :
    Calls Try.prog 18 #[.int .i64 k, .int .u64 a, .int .u64 b] w fun e w' => e = .returned (.int .u64 (reckonV k a b)) ∧ Below w.heap.size w w' := by
  have H := has_none w
  go_enter Try.func18, Try.ntmps18
  go_wp2_with (go_at_call 10; refine (Reckon_c _ _ _ ha hb _).mono ?_; rintro e w1 ⟨rfl, hx⟩; replace H := H.grow hx; clear hx; dsimp only)
  go_ret
  exact ⟨rfl, H.below⟩
set_option maxRecDepth 4000 in
set_option maxHeartbeats 4000000 in
theorem walk (a0 : Int) (a1 : Int) (w0 : (Lit.int .u64 a0).wf = true) (w1 : (Lit.int .u64 a1).wf = true) (w : World) :
    Calls Try.prog 7 #[.int .u64 a0, .int .u64 a1] w fun e w' => e = .returned (.bool true) ∧ Below w.heap.size w w' := by
  have ha := u64_of w0
  have hb := u64_of w1
  clear w0 w1
  have H := has_none w
  obtain ⟨c1, c2, n, c3⟩ := law_cmp ha.out hb.out
  replace c1 : Hid (U64 (bits .xor .u64 a1 18446744073709551615)) := c1
  have hA : ∀ w, Calls Try.prog 12 #[.int .u64 a0, .int .u64 (bits .xor .u64 a1 18446744073709551615), .bool true] w fun e w' => e = .returned (.tuple #[.int .u64 (IntKind.u64.wrap (a0 - a1)), (Flg.mk n (decide (a0 = a1)) (!(decide (a0 < a1))) (n ^^ decide (wrap64 a0 < wrap64 a1))).val]) ∧ Below w.heap.size w w' := fun w => by
    have h := Add_c a0 _ true ha c1 w
    rwa [c2, c3] at h
  have R14 : ∀ w, Calls Try.prog 18 #[.int .i64 14, .int .u64 a0, .int .u64 a1] w fun e w' => e = .returned (.int .u64 (oneI (decide (a0 < a1)))) ∧ Below w.heap.size w w' := reck_c 14 a0 a1 ha hb
  have R15 : ∀ w, Calls Try.prog 18 #[.int .i64 15, .int .u64 a0, .int .u64 a1] w fun e w' => e = .returned (.int .u64 (oneI (decide (wrap64 a0 < wrap64 a1)))) ∧ Below w.heap.size w w' := reck_c 15 a0 a1 ha hb
  have R13 : ∀ w, Calls Try.prog 18 #[.int .i64 13, .int .u64 a0, .int .u64 a1] w fun e w' => e = .returned (.int .u64 (oneI (decide (a0 = a1)))) ∧ Below w.heap.size w w' := fun w => by
    have h := reck_c 13 a0 a1 ha hb w
    rwa [show reckonV 13 a0 a1 = oneI (decide (a0 = a1)) by simp only [reckonV, reduceIte, Int.reduceEq]; congr 1] at h
  have R41 : ∀ w, Calls Try.prog 18 #[.int .i64 14, .int .u64 a1, .int .u64 a0] w fun e w' => e = .returned (.int .u64 (oneI (decide (a1 < a0)))) ∧ Below w.heap.size w w' := reck_c 14 a1 a0 hb ha
  have h3 := law_three a0 a1
  have e0 : (a0 == a1) = decide (a0 = a1) := by rw [Bool.eq_iff_iff]; simp
  clear c1 c2 c3 ha hb
  generalize decide (a0 < a1) = l at *
  generalize decide (a1 < a0) = o at *
  generalize decide (a0 = a1) = s at *
  generalize decide (wrap64 a0 < wrap64 a1) = u at *
  rcases h3 with ⟨rfl, rfl, rfl⟩ | ⟨rfl, rfl, rfl, rfl⟩ | ⟨rfl, rfl, rfl⟩
  · cases n <;> cases u
    all_goals
      go_enter Try.func7, Try.ntmps7
      go_upto_region 3 with (first | (go_at_call 9; refine (examples_c _).mono ?_; rintro e w1 ⟨rfl, hx⟩; replace H := H.grow hx; clear hx; dsimp only) | (go_at_call 12; refine (hA _).mono ?_; rintro e w1 ⟨rfl, hx⟩; replace H := H.grow hx; clear hx; dsimp only) | ((with_reducible refine wpList_new31 H rfl _ _ rfl _ rfl rfl ?_); intro w2 H; try simp only [Act.put]))
      go_upto_region 4 with (go_at_call 18; refine (R14 _).mono ?_; rintro e w1 ⟨rfl, hx⟩; replace H := H.grow hx; clear hx; dsimp only)
      go_upto_region 5 with (go_at_call 18; refine (R15 _).mono ?_; rintro e w1 ⟨rfl, hx⟩; replace H := H.grow hx; clear hx; dsimp only)
      go_upto_region 6 with (go_at_call 18; refine (R13 _).mono ?_; rintro e w1 ⟨rfl, hx⟩; replace H := H.grow hx; clear hx; dsimp only)
      go_upto_region 7 with (go_at_call 18; refine (R41 _).mono ?_; rintro e w1 ⟨rfl, hx⟩; replace H := H.grow hx; clear hx; dsimp only)
      go_wp2_with ((with_reducible refine wpList_load_cell rfl 4 _ rfl _ _ rfl _ (H.at (by first | exact List.mem_cons_self | exact List.mem_cons_of_mem _ (List.mem_cons_self) | exact List.mem_cons_of_mem _ (List.mem_cons_of_mem _ (List.mem_cons_self)) | exact List.mem_cons_of_mem _ (List.mem_cons_of_mem _ (List.mem_cons_of_mem _ (List.mem_cons_self)))) _ _ rfl) (agg4 _) ?_); simp only [Act.put, List.setIfInBounds_toArray, List.set_cons_succ, List.set_cons_zero])
      go_ret
      exact ⟨rfl, H.below⟩
  · cases n
    all_goals
      go_enter Try.func7, Try.ntmps7
      go_upto_region 3 with (first | (go_at_call 9; refine (examples_c _).mono ?_; rintro e w1 ⟨rfl, hx⟩; replace H := H.grow hx; clear hx; dsimp only) | (go_at_call 12; refine (hA _).mono ?_; rintro e w1 ⟨rfl, hx⟩; replace H := H.grow hx; clear hx; dsimp only) | ((with_reducible refine wpList_new31 H rfl _ _ rfl _ rfl rfl ?_); intro w2 H; try simp only [Act.put]))
      go_upto_region 4 with (go_at_call 18; refine (R14 _).mono ?_; rintro e w1 ⟨rfl, hx⟩; replace H := H.grow hx; clear hx; dsimp only)
      go_upto_region 5 with (go_at_call 18; refine (R15 _).mono ?_; rintro e w1 ⟨rfl, hx⟩; replace H := H.grow hx; clear hx; dsimp only)
      go_upto_region 6 with (go_at_call 18; refine (R13 _).mono ?_; rintro e w1 ⟨rfl, hx⟩; replace H := H.grow hx; clear hx; dsimp only)
      go_upto_region 7 with (go_at_call 18; refine (R41 _).mono ?_; rintro e w1 ⟨rfl, hx⟩; replace H := H.grow hx; clear hx; dsimp only)
      go_wp2_with ((with_reducible refine wpList_load_cell rfl 4 _ rfl _ _ rfl _ (H.at (by first | exact List.mem_cons_self | exact List.mem_cons_of_mem _ (List.mem_cons_self) | exact List.mem_cons_of_mem _ (List.mem_cons_of_mem _ (List.mem_cons_self)) | exact List.mem_cons_of_mem _ (List.mem_cons_of_mem _ (List.mem_cons_of_mem _ (List.mem_cons_self)))) _ _ rfl) (agg4 _) ?_); simp only [Act.put, List.setIfInBounds_toArray, List.set_cons_succ, List.set_cons_zero])
      go_ret
      exact ⟨rfl, H.below⟩
  · cases n <;> cases u
    all_goals
      go_enter Try.func7, Try.ntmps7
      go_upto_region 3 with (first | (go_at_call 9; refine (examples_c _).mono ?_; rintro e w1 ⟨rfl, hx⟩; replace H := H.grow hx; clear hx; dsimp only) | (go_at_call 12; refine (hA _).mono ?_; rintro e w1 ⟨rfl, hx⟩; replace H := H.grow hx; clear hx; dsimp only) | ((with_reducible refine wpList_new31 H rfl _ _ rfl _ rfl rfl ?_); intro w2 H; try simp only [Act.put]))
      go_upto_region 4 with (go_at_call 18; refine (R14 _).mono ?_; rintro e w1 ⟨rfl, hx⟩; replace H := H.grow hx; clear hx; dsimp only)
      go_upto_region 5 with (go_at_call 18; refine (R15 _).mono ?_; rintro e w1 ⟨rfl, hx⟩; replace H := H.grow hx; clear hx; dsimp only)
      go_upto_region 6 with (go_at_call 18; refine (R13 _).mono ?_; rintro e w1 ⟨rfl, hx⟩; replace H := H.grow hx; clear hx; dsimp only)
      go_upto_region 7 with (go_at_call 18; refine (R41 _).mono ?_; rintro e w1 ⟨rfl, hx⟩; replace H := H.grow hx; clear hx; dsimp only)
      go_wp2_with ((with_reducible refine wpList_load_cell rfl 4 _ rfl _ _ rfl _ (H.at (by first | exact List.mem_cons_self | exact List.mem_cons_of_mem _ (List.mem_cons_self) | exact List.mem_cons_of_mem _ (List.mem_cons_of_mem _ (List.mem_cons_self)) | exact List.mem_cons_of_mem _ (List.mem_cons_of_mem _ (List.mem_cons_of_mem _ (List.mem_cons_self)))) _ _ rfl) (agg4 _) ?_); simp only [Act.put, List.setIfInBounds_toArray, List.set_cons_succ, List.set_cons_zero])
      go_ret
      exact ⟨rfl, H.below⟩

set_option maxRecDepth 100000 in
theorem lifted (os : Os) (started : os.Started) (H : Type) (enc : TypeId × Value → H) :
    ReturnsInHanded {} Try.checked os 7 .any (Rows.aluComparesSpec.pre6 enc Try.prog Try.f7 Rows.aluComparesRow.domain false) (Rows.aluComparesSpec.post enc Try.prog Try.f7 false true false false) := by
  refine returnsInHanded_of_change (C := Try.checked) own started (by kernel_rfl) Try.func7
    (ChangeSpec.witness6 (enc := enc) (C := Try.checked) false ⟨#[], #[.int .u64 0, .int .u64 0], []⟩ 8 (by kernel_rfl) (by kernel_rfl) (by kernel_rfl) (by kernel_rfl)) ?_
  intro W base args ds gs before hval0 hW hcnd _
  have hval : ∀ (j : Nat) t v, Try.f7.params[j]? = some t → args[j]? = some v → Value.okWide Try.prog W .any base t v := hval0
  have hW' := hW
  obtain ⟨p, q, hA0, hV, rfl, hfz, hnd⟩ := hW
  have hA : DataW.TrodAll enc Try.prog W 0 (fun _ => true) true Try.f7.params.toList args.toList ds p := hA0
  rw [Try.params7] at hA hval
  obtain ⟨v0, vs0, d0, ds0, p0, q0, hargs, rfl, rfl, h0, r0⟩ := trodAll_cons hA
  obtain ⟨v1, vs1, d1, ds1, p1, q1, rfl, rfl, rfl, h1, r1⟩ := trodAll_cons r0
  obtain ⟨rfl, rfl, rfl⟩ := trodAll_nil r1
  obtain rfl : args = #[v0, v1] := by cases args; simp_all
  obtain ⟨rfl, rfl⟩ := trodVars_none hV
  obtain ⟨a0, rfl, rfl, rfl, w0⟩ := open_int Try.underlying22 (hval 0 22 v0 rfl rfl) h0
  obtain ⟨a1, rfl, rfl, rfl, w1⟩ := open_int Try.underlying22 (hval 1 22 v1 rfl rfl) h1
  clear hA0 hval0
  simp only [List.append_nil] at hW'
  refine (walk a0 a1 w0 w1 W).mono fun e W' ⟨he, hb⟩ => ?_
  subst he
  exact ⟨_, rfl, post_flat hW' (fun _ _ _ => (trodAll_cons_mk (shut_bool Try.underlying4 _) trodAll_mk0)) (fun sp => (trodAll_cons_mk (shut_int Try.underlying22 w0) (trodAll_cons_mk (shut_int Try.underlying22 w1) trodAll_mk0))) (fun _ => rfl) (fun may => hb.frame may) (ok_one (by kernel_rfl) rfl (okWide_bool_mk Try.underlying4 _))⟩

theorem over : Rows.aluComparesRow.holds Try.pinned (OpenSpec.ofChange Rows.aluComparesSpec) :=
  OpenClaim.holds_of_wide 7 Try.f7 rfl rfl rfl rfl rfl rfl rfl ⟨rfl, rfl, rfl, rfl, rfl⟩ rfl rfl rfl rfl rfl (by kernel_rfl) Try.func7 (by kernel_rfl)
    (of_decide_eq_true (by kernel_rfl)) (by unfold Func.isWrapper; first | (rw [if_pos (by decide +kernel)]; kernel_rfl) | (rw [if_neg (by decide +kernel)]; exact ⟨rfl, rfl⟩))
    (fun os started H enc _ => lifted os started H enc)

theorem proved : Rows.AluComparesSaid :=
  over
end Go.Proofs.Ytakmnbahogogiaa.aluCompares

namespace Go.Proofs.Ytakmnbahogogiaa
theorem aluCompares_holds : Rows.AluComparesSaid := aluCompares.proved
#print axioms aluCompares_holds
end Go.Proofs.Ytakmnbahogogiaa
