/- Of any trace the first word is told that was run and might not have been, as the document has it: FetchChecks returns true, whatever its arguments. -/
import Derived.Test.YtbdmemjenpnjgaaLi
import Derived.Test.YtbdmemjenpnjgaaFr
namespace Go.Proofs.Ytbdmemjenpnjgaa.fetchChecks
open Go.ChangeShapes Go.WideShapes Go.ChangeAt Go.RowKit
set_option linter.unusedVariables false
set_option linter.unusedSimpArgs false

theorem own : ownKnob Try.prog.godebug = none := by kernel_rfl

set_option maxRecDepth 100000 in
theorem lifted (os : Os) (started : os.Started) (H : Type) (enc : TypeId × Value → H) :
    ReturnsInHanded {} Try.checked os 4 .any (Rows.fetchChecksSpec.pre6 enc Try.prog Try.f4 Rows.fetchChecksRow.domain false) (Rows.fetchChecksSpec.post enc Try.prog Try.f4 false true false false) := by
  refine returnsInHanded_of_change_sized (C := Try.checked) own started (by kernel_rfl) Try.func4
    (ChangeSpec.witness6 (enc := enc) (C := Try.checked) false ⟨#[], #[.slice none 0 0, .int .u32 0, .int .u32 0], []⟩ 8 (by kernel_rfl) (by kernel_rfl) (by kernel_rfl) (by kernel_rfl)) ?_
  intro W base args ds gs before hval0 hW _ hsz0 _
  have hsz : (DataW.weightsEach Try.prog (Try.f4.params.toList ++ Rows.fetchChecksSpec.plain.varTypes Try.prog) (ds ++ gs)).all (· ≤ reachBytes) = true := hsz0
  clear hsz0
  have hval : ∀ (j : Nat) t v, Try.f4.params[j]? = some t → args[j]? = some v → Value.okWide Try.prog W .any base t v := hval0
  have hW' := hW
  obtain ⟨p, q, hA0, hV, rfl, hfz, hnd⟩ := hW
  have hA : DataW.TrodAll enc Try.prog W 0 (fun _ => true) true Try.f4.params.toList args.toList ds p := hA0
  have hAll := hA
  rw [Try.params4] at hA hval hsz
  obtain ⟨v0, vs0, d0, ds0, p0, q0, hargs, rfl, rfl, h0, r0⟩ := trodAll_cons hA
  obtain ⟨v1, vs1, d1, ds1, p1, q1, rfl, rfl, rfl, h1, r1⟩ := trodAll_cons r0
  obtain ⟨v2, vs2, d2, ds2, p2, q2, rfl, rfl, rfl, h2, r2⟩ := trodAll_cons r1
  obtain ⟨rfl, rfl, rfl⟩ := trodAll_nil r2
  obtain rfl : args = #[v0, v1, v2] := by cases args; simp_all
  obtain ⟨rfl, rfl⟩ := trodVars_none hV
  obtain ⟨z0, R0⟩ := open_notes (hval 0 22 v0 rfl rfl) h0
  have hroom0 : z0.length * 32 ≤ 140737488351232 := by
    rcases slice_len h0 R0 with rfl | ⟨el, sp, hd, he⟩
    · exact Nat.zero_le _
    · have hmem : (el.length + sp.length) * 32 ≤ reachBytes := by
        have := List.all_eq_true.1 hsz _ (List.mem_append_left _ (weigh hd))
        simpa using this
      have hr : reachBytes = 140737488351232 := rfl
      rw [hr] at hmem
      omega
  have hlen0 : z0.length ≤ 4398046511104 := by omega
  obtain ⟨a1, rfl, rfl, rfl, w1⟩ := open_int Try.underlying24 (hval 1 24 v1 rfl rfl) h1
  obtain ⟨n1, rfl, b1⟩ := nat32 w1
  obtain ⟨a2, rfl, rfl, rfl, w2⟩ := open_int Try.underlying24 (hval 2 24 v2 rfl rfl) h2
  obtain ⟨n2, rfl, b2⟩ := nat32 w2
  clear hA0 hval0 hsz
  simp only [List.append_nil] at hW' hAll
  refine (checks_walk (R0.nts hlen0) R0.ok (slice_cap h0 R0) b1 b2).mono fun e W' ⟨he, hb⟩ => ?_
  subst he
  refine ⟨_, rfl, post_old (P := Try.prog) (by kernel_rfl) hW' hb hAll ?_ (fun _ _ _ => (trodAll_cons_mk (shut_bool Try.underlying4 _) trodAll_mk0)) rfl (fun _ => rfl) (ok_one (by kernel_rfl) rfl (okWide_bool_mk Try.underlying4 _))⟩
  intro t ht
  rw [Try.params4] at ht
  have ht' : t = 22 ∨ t = 24 ∨ t = 24 := by simpa using ht
  rcases ht' with rfl | rfl | rfl <;> exact ⟨by kernel_rfl, of_decide_eq_true (by kernel_rfl)⟩

theorem over : Rows.fetchChecksRow.holds Try.pinned (OpenSpec.ofChange Rows.fetchChecksSpec) :=
  OpenClaim.holds_of_wide 4 Try.f4 rfl rfl rfl rfl rfl rfl rfl ⟨rfl, rfl, rfl, rfl, rfl⟩ rfl rfl rfl rfl rfl (by kernel_rfl) Try.func4 (by kernel_rfl)
    (of_decide_eq_true (by kernel_rfl)) (by unfold Func.isWrapper; first | (rw [if_pos (by decide +kernel)]; kernel_rfl) | (rw [if_neg (by decide +kernel)]; exact ⟨rfl, rfl⟩))
    (fun os started H enc _ => lifted os started H enc)

theorem proved : Rows.FetchChecksSaid :=
  over
end Go.Proofs.Ytbdmemjenpnjgaa.fetchChecks

namespace Go.Proofs.Ytbdmemjenpnjgaa
theorem fetchChecks_holds : Rows.FetchChecksSaid := fetchChecks.proved
#print axioms fetchChecks_holds
end Go.Proofs.Ytbdmemjenpnjgaa
