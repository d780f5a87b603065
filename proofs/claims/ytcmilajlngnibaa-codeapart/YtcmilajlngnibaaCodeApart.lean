/- For every two instructions: words are alike just where the instructions are: CodeApart returns true, whatever its arguments. -/
import Derived.Test.YtcmilajlngnibaaExs
import Derived.Laws.BitsAllLaws
namespace Go.Proofs.Ytcmilajlngnibaa.codeApart
open Go.ChangeShapes Go.WideShapes Go.ChangeAt Go.RowKit
set_option linter.unusedVariables false

theorem has_two (i j : Ins) (w : World) : Has w [(w.heap.size + 1, j), (w.heap.size, i)] ((w.alloc (.cells i.cells 25)).alloc (.cells j.cells 25)) := by
  refine ⟨below_more (Go.Proofs.Ytcmilajlngnibaa.below_alloc _ _), fun p hp => ?_⟩
  rcases List.mem_cons.1 hp with rfl | hp
  · exact ⟨Nat.le_succ _, heap_alloc2_new _ _ _⟩
  · obtain rfl := List.mem_singleton.1 hp
    exact ⟨Nat.le_refl _, heap_alloc2_old _ _ _⟩
set_option maxRecDepth 4000 in
set_option maxHeartbeats 4000000 in
theorem walk (a0 a1 : Ins) (w0 : a0.WF) (w1 : a1.WF) (w : World) :
    Calls Try.prog 6 #[a0.val, a1.val] w fun e w' => e = .returned (.bool true) ∧ Below w.heap.size w w' := by
  have hi : Hid (∀ k : Fl, I64 (k.get a0)) := fun k => w0.in64 k
  have hj : Hid (∀ k : Fl, I64 (k.get a1)) := fun k => w1.in64 k
  clear w0 w1
  have H := has_two a0 a1 w
  go_enter Try.func6, Try.ntmps6
  go_upto_region 1 with fail
  generalize (w.alloc (.cells a0.cells 25)).alloc (.cells a1.cells 25) = w1 at H ⊢
  go_upto_region 4 with (first | ((with_reducible refine wpList_load_if rfl 25 _ rfl _ rfl 25 _ (0, 0) _ (H.get (by first | exact List.mem_cons_self | exact List.mem_cons_of_mem _ (List.mem_cons_self) | exact List.mem_cons_of_mem _ (List.mem_cons_of_mem _ (List.mem_cons_self)) | exact List.mem_cons_of_mem _ (List.mem_cons_of_mem _ (List.mem_cons_of_mem _ (List.mem_cons_self))) | exact List.mem_cons_of_mem _ (List.mem_cons_of_mem _ (List.mem_cons_of_mem _ (List.mem_cons_of_mem _ (List.mem_cons_self)))) | exact List.mem_cons_of_mem _ (List.mem_cons_of_mem _ (List.mem_cons_of_mem _ (List.mem_cons_of_mem _ (List.mem_cons_of_mem _ (List.mem_cons_self))))) | exact List.mem_cons_of_mem _ (List.mem_cons_of_mem _ (List.mem_cons_of_mem _ (List.mem_cons_of_mem _ (List.mem_cons_of_mem _ (List.mem_cons_of_mem _ (List.mem_cons_self)))))))) Try.underlying25 rfl (Ins.infoC _) ?_); (simp only [Act.put, List.setIfInBounds_toArray, List.set_cons_succ, List.set_cons_zero])) | (go_at_call 8; refine (examples_c _).mono ?_; rintro e w1 ⟨rfl, hb⟩; replace H := H.grow hb; clear hb; dsimp only) | (go_at_call 11; refine (encode_c _ (by first | exact hi | exact hj) _).mono ?_; rintro e w1 ⟨rfl, hb⟩; replace H := H.grow hb; clear hb; dsimp only))
  rcases dec_enc a0 with e0 | ⟨e0, -, -⟩
  · have e0 : (encV a0).2 = 3 := by rw [e0]
    go_wp2
    go_ret
    exact ⟨rfl, H.below⟩
  · rcases dec_enc a1 with e1 | ⟨e1, -, -⟩
    · have e1 : (encV a1).2 = 3 := by rw [e1]
      go_wp2
      go_ret
      exact ⟨rfl, H.below⟩
    · have hA := enc_apart e0 e1
      cases hE : eqI a0 a1 with
      | true =>
        have hw : ((encV a0).1 == (encV a1).1) = true := beq_iff_eq.2 (hA.2 ((eqI_iff _ _).1 hE))
        clear hA
        go_wp2_with (first | ((with_reducible refine wpList_load_if rfl 25 _ rfl _ rfl 25 _ (0, 0) _ (H.get (by first | exact List.mem_cons_self | exact List.mem_cons_of_mem _ (List.mem_cons_self) | exact List.mem_cons_of_mem _ (List.mem_cons_of_mem _ (List.mem_cons_self)) | exact List.mem_cons_of_mem _ (List.mem_cons_of_mem _ (List.mem_cons_of_mem _ (List.mem_cons_self))) | exact List.mem_cons_of_mem _ (List.mem_cons_of_mem _ (List.mem_cons_of_mem _ (List.mem_cons_of_mem _ (List.mem_cons_self)))) | exact List.mem_cons_of_mem _ (List.mem_cons_of_mem _ (List.mem_cons_of_mem _ (List.mem_cons_of_mem _ (List.mem_cons_of_mem _ (List.mem_cons_self))))) | exact List.mem_cons_of_mem _ (List.mem_cons_of_mem _ (List.mem_cons_of_mem _ (List.mem_cons_of_mem _ (List.mem_cons_of_mem _ (List.mem_cons_of_mem _ (List.mem_cons_self)))))))) Try.underlying25 rfl (Ins.infoC _) ?_); (simp only [Act.put, List.setIfInBounds_toArray, List.set_cons_succ, List.set_cons_zero])) | ((with_reducible refine wpList_eql_insn rfl _ _ rfl (a0) (a1) ?_ ?_ true hE ?_); (focus rfl); (focus rfl); (simp only [Act.put, List.setIfInBounds_toArray, List.set_cons_succ, List.set_cons_zero])))
        go_ret
        exact ⟨rfl, H.below⟩
      | false =>
        have hw : ((encV a0).1 == (encV a1).1) = false := beq_eq_false_iff_ne.2 fun h => by have := (eqI_iff _ _).2 (hA.1 h); rw [hE] at this; cases this
        clear hA
        go_wp2_with (first | ((with_reducible refine wpList_load_if rfl 25 _ rfl _ rfl 25 _ (0, 0) _ (H.get (by first | exact List.mem_cons_self | exact List.mem_cons_of_mem _ (List.mem_cons_self) | exact List.mem_cons_of_mem _ (List.mem_cons_of_mem _ (List.mem_cons_self)) | exact List.mem_cons_of_mem _ (List.mem_cons_of_mem _ (List.mem_cons_of_mem _ (List.mem_cons_self))) | exact List.mem_cons_of_mem _ (List.mem_cons_of_mem _ (List.mem_cons_of_mem _ (List.mem_cons_of_mem _ (List.mem_cons_self)))) | exact List.mem_cons_of_mem _ (List.mem_cons_of_mem _ (List.mem_cons_of_mem _ (List.mem_cons_of_mem _ (List.mem_cons_of_mem _ (List.mem_cons_self))))) | exact List.mem_cons_of_mem _ (List.mem_cons_of_mem _ (List.mem_cons_of_mem _ (List.mem_cons_of_mem _ (List.mem_cons_of_mem _ (List.mem_cons_of_mem _ (List.mem_cons_self)))))))) Try.underlying25 rfl (Ins.infoC _) ?_); (simp only [Act.put, List.setIfInBounds_toArray, List.set_cons_succ, List.set_cons_zero])) | ((with_reducible refine wpList_eql_insn rfl _ _ rfl (a0) (a1) ?_ ?_ false hE ?_); (focus rfl); (focus rfl); (simp only [Act.put, List.setIfInBounds_toArray, List.set_cons_succ, List.set_cons_zero])))
        go_ret
        exact ⟨rfl, H.below⟩

set_option maxRecDepth 100000 in
theorem lifted (os : Os) (started : os.Started) (H : Type) (enc : TypeId × Value → H) :
    ReturnsInHanded {} Try.checked os 6 .any (Rows.codeApartSpec.pre6 enc Try.prog Try.f6 Rows.codeApartRow.domain false) (Rows.codeApartSpec.post enc Try.prog Try.f6 false true false false) := by
  refine returnsInHanded_of_change (C := Try.checked) own started (by kernel_rfl) Try.func6
    (ChangeSpec.witness6 (enc := enc) (C := Try.checked) false ⟨#[], #[nilI.val, nilI.val], []⟩ 8 (by kernel_rfl) (by kernel_rfl) (by kernel_rfl) (by kernel_rfl)) ?_
  intro W base args ds gs before hval0 hW hcnd _
  have hval : ∀ (j : Nat) t v, Try.f6.params[j]? = some t → args[j]? = some v → Value.okWide Try.prog W .any base t v := hval0
  have hW' := hW
  obtain ⟨p, q, hA0, hV, rfl, hfz, hnd⟩ := hW
  have hA : DataW.TrodAll enc Try.prog W 0 (fun _ => true) true Try.f6.params.toList args.toList ds p := hA0
  rw [Try.params6] at hA hval
  obtain ⟨v0, vs0, d0, ds0, p0, q0, hargs, rfl, rfl, h0, r0⟩ := trodAll_cons hA
  obtain ⟨v1, vs1, d1, ds1, p1, q1, rfl, rfl, rfl, h1, r1⟩ := trodAll_cons r0
  obtain ⟨rfl, rfl, rfl⟩ := trodAll_nil r1
  obtain rfl : args = #[v0, v1] := by cases args; simp_all
  obtain ⟨rfl, rfl⟩ := trodVars_none hV
  obtain ⟨a0, w0, rfl, rfl, rfl⟩ := open_insn (hval 0 25 v0 rfl rfl) h0
  obtain ⟨a1, w1, rfl, rfl, rfl⟩ := open_insn (hval 1 25 v1 rfl rfl) h1
  clear hA0 hval0
  simp only [List.append_nil] at hW'
  refine (walk a0 a1 w0 w1 W).mono fun e W' ⟨he, hb⟩ => ?_
  subst he
  exact ⟨_, rfl, post_flat hW' (fun _ _ _ => (trodAll_cons_mk (shut_bool Try.underlying4 _) trodAll_mk0)) (fun sp => (trodAll_cons_mk (shut_insn a0 w0) (trodAll_cons_mk (shut_insn a1 w1) trodAll_mk0))) (fun _ => rfl) (fun may => hb.frame may) (ok_one (by kernel_rfl) rfl (okWide_bool_mk Try.underlying4 _))⟩

theorem over : Rows.codeApartRow.holds Try.pinned (OpenSpec.ofChange Rows.codeApartSpec) :=
  OpenClaim.holds_of_wide 6 Try.f6 rfl rfl rfl rfl rfl rfl rfl ⟨rfl, rfl, rfl, rfl, rfl⟩ rfl rfl rfl rfl rfl (by kernel_rfl) Try.func6 (by kernel_rfl)
    (of_decide_eq_true (by kernel_rfl)) (by unfold Func.isWrapper; first | (rw [if_pos (by decide +kernel)]; kernel_rfl) | (rw [if_neg (by decide +kernel)]; exact ⟨rfl, rfl⟩))
    (fun os started H enc _ => lifted os started H enc)

theorem proved : Rows.CodeApartSaid :=
  over
end Go.Proofs.Ytcmilajlngnibaa.codeApart

namespace Go.Proofs.Ytcmilajlngnibaa
theorem codeApart_holds : Rows.CodeApartSaid := codeApart.proved
#print axioms codeApart_holds
end Go.Proofs.Ytcmilajlngnibaa
