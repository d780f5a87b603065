/- A block without what nobody sees does the same: DeadDoes returns true, whatever its arguments. -/
import Derived.Test.YtejlmggfeejgpaaMz
import Derived.Test.YtejlmggfeejgpaaFr
namespace Go.Proofs.Ytejlmggfeejgpaa.deadDoes
open Go.ChangeShapes Go.WideShapes Go.ChangeAt Go.RowKit
set_option linter.unusedVariables false
set_option linter.unusedSimpArgs false

set_option maxRecDepth 100000 in
theorem lifted (os : Os) (started : os.Started) (H : Type) (enc : TypeId × Value → H) :
    ReturnsInHanded {} Try.checked os 4 .any (Rows.deadDoesSpec.pre6 enc Try.prog Try.f4 Rows.deadDoesRow.domain false) (Rows.deadDoesSpec.post enc Try.prog Try.f4 false true false false) := by
  refine returnsInHanded_of_change_sized (C := Try.checked) own started (by kernel_rfl) Try.func4
    (ChangeSpec.witness6 (enc := enc) (C := Try.checked) false ⟨#[], #[blV 0 0 0 (.slice none 0 0), nilC.val, .slice none 0 0], []⟩ 8 (by kernel_rfl) (by kernel_rfl) (by kernel_rfl) (by kernel_rfl)) ?_
  intro W base args ds gs before hval0 hW _ hsz0 _
  have hsz : (DataW.weightsEach Try.prog (Try.f4.params.toList ++ Rows.deadDoesSpec.plain.varTypes Try.prog) (ds ++ gs)).all (· ≤ reachBytes) = true := hsz0
  clear hsz0
  have hval : ∀ (j : Nat) t v, Try.f4.params[j]? = some t → args[j]? = some v → Value.okWide Try.prog W .any base t v := hval0
  have hW' := hW
  obtain ⟨p, q, hA0, hV, rfl, hfz, hnd⟩ := hW
  have hA : DataW.TrodAll enc Try.prog W 0 (fun _ => true) true Try.f4.params.toList args.toList ds p := hA0
  have hAll := hA
  rw [Try.params4] at hA hval hsz
  obtain ⟨v0, vs0, d0, ds0, p0, q0, hargs, rfl, rfl, h0, r0⟩ := trodAll_cons hA
  obtain ⟨v1, vs1, d1, ds1, p1, q1, rfl, rfl, rfl, h1, r1⟩ := trodAll_cons r0
  obtain ⟨v2, vs2, d2, ds2, p2, q2, rfl, rfl, rfl, h2, r2⟩ := trodAll_cons r1
  obtain ⟨rfl, rfl, rfl⟩ := trodAll_nil r2
  obtain rfl : args = #[v0, v1, v2] := by cases args; simp_all
  obtain ⟨rfl, rfl⟩ := trodVars_none hV
  obtain ⟨pc0, words0, el0, u0, l0, rfl, hpc0, O0, hlw0⟩ := open_block (hval 0 25 v0 rfl rfl) h0
  have hl0 : l0.length * 48 ≤ 140737488351232 := hlw0 (by
    exact List.all_eq_true.2 (fun x hx => List.all_eq_true.1 hsz x (List.mem_append_left _ hx)))
  clear hlw0
  obtain ⟨c1, rfl, hc1⟩ := open_core (hval 1 43 v1 rfl rfl) h1
  obtain ⟨z2, R2⟩ := open_gots (hval 2 44 v2 rfl rfl) h2
  clear hA0 hval0 hsz
  simp only [List.append_nil] at hW' hAll
  refine (does_walk R2 hpc0 O0.ops O0.imm O0.cap hc1).mono fun e W' ⟨he, hb⟩ => ?_
  subst he
  refine ⟨_, rfl, post_old (P := Try.prog) (by kernel_rfl) hW' hb hAll ?_ (fun _ _ _ => (trodAll_cons_mk (shut_bool Try.underlying4 _) trodAll_mk0)) rfl (fun _ => rfl) (ok_one (by kernel_rfl) rfl (okWide_bool_mk Try.underlying4 _))⟩
  intro t ht
  rw [Try.params4] at ht
  have ht' : t = 25 ∨ t = 43 ∨ t = 44 := by simpa using ht
  rcases ht' with rfl | rfl | rfl <;> exact ⟨by kernel_rfl, of_decide_eq_true (by kernel_rfl)⟩

theorem over : Rows.deadDoesRow.holds Try.pinned (OpenSpec.ofChange Rows.deadDoesSpec) :=
  OpenClaim.holds_of_wide 4 Try.f4 rfl rfl rfl rfl rfl rfl rfl ⟨rfl, rfl, rfl, rfl, rfl⟩ rfl rfl rfl rfl rfl (by kernel_rfl) Try.func4 (by kernel_rfl)
    (of_decide_eq_true (by kernel_rfl)) (by unfold Func.isWrapper; first | (rw [if_pos (by decide +kernel)]; kernel_rfl) | (rw [if_neg (by decide +kernel)]; exact ⟨rfl, rfl⟩))
    (fun os started H enc _ => lifted os started H enc)

theorem proved : Rows.DeadDoesSaid :=
  over
end Go.Proofs.Ytejlmggfeejgpaa.deadDoes

namespace Go.Proofs.Ytejlmggfeejgpaa
theorem deadDoes_holds : Rows.DeadDoesSaid := deadDoes.proved
#print axioms deadDoes_holds
end Go.Proofs.Ytejlmggfeejgpaa
