/- What is ordered, or exclusive, or a fence, or an exit, stays, in its order, and no plain access comes across it; of plain ones there are no more than there were: OrderKeeps returns true, whatever its argument. -/
import Derived.Test.YtilbnjldfgofmaaXf
import Derived.Test.YtilbnjldfgofmaaFr
namespace Go.Proofs.Ytilbnjldfgofmaa.orderKeeps
open Go.ChangeShapes Go.WideShapes Go.ChangeAt Go.RowKit
set_option linter.unusedVariables false
set_option linter.unusedSimpArgs false

set_option maxRecDepth 100000 in
theorem lifted (os : Os) (started : os.Started) (H : Type) (enc : TypeId × Value → H) :
    ReturnsInHanded {} Try.checked os 5 .any (Rows.orderKeepsSpec.pre6 enc Try.prog Try.f5 Rows.orderKeepsRow.domain false) (Rows.orderKeepsSpec.post enc Try.prog Try.f5 false true false false) := by
  refine returnsInHanded_of_change_sized (C := Try.checked) own started (by kernel_rfl) Try.func5
    (ChangeSpec.witness6 (enc := enc) (C := Try.checked) false ⟨#[], #[blV 0 0 0 (.slice none 0 0)], []⟩ 8 (by kernel_rfl) (by kernel_rfl) (by kernel_rfl) (by kernel_rfl)) ?_
  intro W base args ds gs before hval0 hW _ hsz0 _
  have hsz : (DataW.weightsEach Try.prog (Try.f5.params.toList ++ Rows.orderKeepsSpec.plain.varTypes Try.prog) (ds ++ gs)).all (· ≤ reachBytes) = true := hsz0
  clear hsz0
  have hval : ∀ (j : Nat) t v, Try.f5.params[j]? = some t → args[j]? = some v → Value.okWide Try.prog W .any base t v := hval0
  have hW' := hW
  obtain ⟨p, q, hA0, hV, rfl, hfz, hnd⟩ := hW
  have hA : DataW.TrodAll enc Try.prog W 0 (fun _ => true) true Try.f5.params.toList args.toList ds p := hA0
  have hAll := hA
  rw [Try.params5] at hA hval hsz
  obtain ⟨v0, vs0, d0, ds0, p0, q0, hargs, rfl, rfl, h0, r0⟩ := trodAll_cons hA
  obtain ⟨rfl, rfl, rfl⟩ := trodAll_nil r0
  obtain rfl : args = #[v0] := by cases args; simp_all
  obtain ⟨rfl, rfl⟩ := trodVars_none hV
  obtain ⟨pc0, words0, el0, u0, l0, rfl, hpc0, O0, hlw0⟩ := open_block (hval 0 25 v0 rfl rfl) h0
  have hl0 : l0.length * 48 ≤ 140737488351232 := hlw0 (by
    exact List.all_eq_true.2 (fun x hx => List.all_eq_true.1 hsz x (List.mem_append_left _ hx)))
  clear hlw0
  clear hA0 hval0 hsz
  simp only [List.append_nil] at hW' hAll
  refine (keeps_walk hpc0 O0.ops (fun k => (O0.imm k).1) O0.cap).mono fun e W' ⟨he, hb⟩ => ?_
  subst he
  refine ⟨_, rfl, post_old (P := Try.prog) (by kernel_rfl) hW' hb hAll ?_ (fun _ _ _ => (trodAll_cons_mk (shut_bool Try.underlying4 _) trodAll_mk0)) rfl (fun _ => rfl) (ok_one (by kernel_rfl) rfl (okWide_bool_mk Try.underlying4 _))⟩
  intro t ht
  rw [Try.params5] at ht
  have ht' : t = 25 := by simpa using ht
  rcases ht' with rfl <;> exact ⟨by kernel_rfl, of_decide_eq_true (by kernel_rfl)⟩

theorem over : Rows.orderKeepsRow.holds Try.pinned (OpenSpec.ofChange Rows.orderKeepsSpec) :=
  OpenClaim.holds_of_wide 5 Try.f5 rfl rfl rfl rfl rfl rfl rfl ⟨rfl, rfl, rfl, rfl, rfl⟩ rfl rfl rfl rfl rfl (by kernel_rfl) Try.func5 (by kernel_rfl)
    (of_decide_eq_true (by kernel_rfl)) (by unfold Func.isWrapper; first | (rw [if_pos (by decide +kernel)]; kernel_rfl) | (rw [if_neg (by decide +kernel)]; exact ⟨rfl, rfl⟩))
    (fun os started H enc _ => lifted os started H enc)

theorem proved : Rows.OrderKeepsSaid :=
  over
end Go.Proofs.Ytilbnjldfgofmaa.orderKeeps

namespace Go.Proofs.Ytilbnjldfgofmaa
theorem orderKeeps_holds : Rows.OrderKeepsSaid := orderKeeps.proved
#print axioms orderKeeps_holds
end Go.Proofs.Ytilbnjldfgofmaa
