/- For every word: Decode answers the instruction that the document's own answer tells, or none: CodeDecodes returns true, whatever its argument. -/
import Derived.Test.YtcmilajlngnibaaK16
import Derived.Test.YtcmilajlngnibaaK35
import Derived.Laws.BitsAllLaws
namespace Go.Proofs.Ytcmilajlngnibaa.codeDecodes
open Go.ChangeShapes Go.WideShapes Go.ChangeAt Go.RowKit
set_option linter.unusedVariables false

set_option maxRecDepth 4000 in
set_option maxHeartbeats 4000000 in
theorem walk (a0 : Int) (w0 : (Lit.int .u32 a0).wf = true) (w : World) :
    Calls Try.prog 3 #[.int .u32 a0] w fun e w' => e = .returned (.bool true) ∧ Below w.heap.size w w' := by
  have b0 := bounds_u32 w0
  have hW : W32 a0 := ⟨by omega, by omega⟩
  clear w0
  have H := has_none w
  have hE : eqI (decV a0) (decV a0) = true := eqI_refl _
  go_enter Try.func3, Try.ntmps3
  go_wp2_with (first | (go_at_call 8; refine (examples_c _).mono ?_; rintro e w1 ⟨rfl, hb⟩; replace H := H.grow hb; clear hb; dsimp only) | (go_at_call 9; refine (decode_c _ hW _).mono ?_; rintro e w1 ⟨rfl, hb⟩; replace H := H.grow hb; clear hb; dsimp only) | (go_at_call 10; refine (rdecode_c _ hW _).mono ?_; rintro e w1 ⟨rfl, hb⟩; replace H := H.grow hb; clear hb; dsimp only) | ((with_reducible refine wpList_eql_insn rfl _ _ rfl (decV a0) (decV a0) ?_ ?_ true hE ?_); (focus rfl); (focus rfl); (simp only [Act.put, List.setIfInBounds_toArray, List.set_cons_succ, List.set_cons_zero])))
  go_ret
  exact ⟨rfl, H.below⟩

set_option maxRecDepth 100000 in
theorem lifted (os : Os) (started : os.Started) (H : Type) (enc : TypeId × Value → H) :
    ReturnsInHanded {} Try.checked os 3 .any (Rows.codeDecodesSpec.pre6 enc Try.prog Try.f3 Rows.codeDecodesRow.domain false) (Rows.codeDecodesSpec.post enc Try.prog Try.f3 false true false false) := by
  refine returnsInHanded_of_change (C := Try.checked) own started (by kernel_rfl) Try.func3
    (ChangeSpec.witness6 (enc := enc) (C := Try.checked) false ⟨#[], #[.int .u32 0], []⟩ 8 (by kernel_rfl) (by kernel_rfl) (by kernel_rfl) (by kernel_rfl)) ?_
  intro W base args ds gs before hval0 hW hcnd _
  have hval : ∀ (j : Nat) t v, Try.f3.params[j]? = some t → args[j]? = some v → Value.okWide Try.prog W .any base t v := hval0
  have hW' := hW
  obtain ⟨p, q, hA0, hV, rfl, hfz, hnd⟩ := hW
  have hA : DataW.TrodAll enc Try.prog W 0 (fun _ => true) true Try.f3.params.toList args.toList ds p := hA0
  rw [Try.params3] at hA hval
  obtain ⟨v0, vs0, d0, ds0, p0, q0, hargs, rfl, rfl, h0, r0⟩ := trodAll_cons hA
  obtain ⟨rfl, rfl, rfl⟩ := trodAll_nil r0
  obtain rfl : args = #[v0] := by cases args; simp_all
  obtain ⟨rfl, rfl⟩ := trodVars_none hV
  obtain ⟨a0, rfl, rfl, rfl, w0⟩ := open_int Try.underlying22 (hval 0 22 v0 rfl rfl) h0
  clear hA0 hval0
  simp only [List.append_nil] at hW'
  refine (walk a0 w0 W).mono fun e W' ⟨he, hb⟩ => ?_
  subst he
  exact ⟨_, rfl, post_flat hW' (fun _ _ _ => (trodAll_cons_mk (shut_bool Try.underlying4 _) trodAll_mk0)) (fun sp => (trodAll_cons_mk (shut_int Try.underlying22 w0) trodAll_mk0)) (fun _ => rfl) (fun may => hb.frame may) (ok_one (by kernel_rfl) rfl (okWide_bool_mk Try.underlying4 _))⟩

theorem over : Rows.codeDecodesRow.holds Try.pinned (OpenSpec.ofChange Rows.codeDecodesSpec) :=
  OpenClaim.holds_of_wide 3 Try.f3 rfl rfl rfl rfl rfl rfl rfl ⟨rfl, rfl, rfl, rfl, rfl⟩ rfl rfl rfl rfl rfl (by kernel_rfl) Try.func3 (by kernel_rfl)
    (of_decide_eq_true (by kernel_rfl)) (by unfold Func.isWrapper; first | (rw [if_pos (by decide +kernel)]; kernel_rfl) | (rw [if_neg (by decide +kernel)]; exact ⟨rfl, rfl⟩))
    (fun os started H enc _ => lifted os started H enc)

theorem proved : Rows.CodeDecodesSaid :=
  over
end Go.Proofs.Ytcmilajlngnibaa.codeDecodes

namespace Go.Proofs.Ytcmilajlngnibaa
theorem codeDecodes_holds : Rows.CodeDecodesSaid := codeDecodes.proved
#print axioms codeDecodes_holds
end Go.Proofs.Ytcmilajlngnibaa
