/- For every word, every place, every number of bits and every value: what Put has laid into a word Field takes out of it, and nothing else has changed: BitsBack returns true, whatever its arguments. -/
import Derived.Test.YtpoaapncfojhoaaEnds
import Derived.Test.YtpoaapncfojhoaaPlainE
import Derived.WalkKit
import Derived.ProofKit
import Derived.OpenShut
namespace Go.Proofs.Ytpoaapncfojhoaa.bitsBack
open Go.ChangeShapes Go.WideShapes Go.ChangeAt Go.RowKit
set_option linter.unusedVariables false

theorem own : ownKnob Try.prog.godebug = none := by kernel_rfl

set_option maxHeartbeats 400000 in
theorem walk (a0 : Int) (a1 : Int) (a2 : Int) (a3 : Int) (w0 : (Lit.int .u32 a0).wf = true) (w1 : (Lit.int .i64 a1).wf = true) (w2 : (Lit.int .i64 a2).wf = true) (w3 : (Lit.int .u32 a3).wf = true) (w : World) :
    Calls Try.prog 7 #[.int .u32 a0, .int .i64 a1, .int .i64 a2, .int .u32 a3] w fun e w' => e = .returned (.bool true) ∧ Grown w w' := by
  have hw := bnd32 w0
  have hv := bnd32 w3
  clear w0 w1 w2 w3
  by_cases hz : putE a1 a2 a3 = 0
  · have b1 := put_bounds a0 a1 a2 a3
    have b2 := field_bounds a0 a1 a2 hw
    have e1 := field_put (word := a0) hv hz
    have e2 := put_field hw hz
    have hb := (put_of (word := a0) hz).1
    have e3 := putE_field (word := a0) hb
    have e4 : inE (inWordB a1 a2) = 0 := by rw [hb]; rfl
    have K1 : ∀ w : World, Calls Try.prog 12 #[.int .u32 a0, .int .i64 a1, .int .i64 a2, .int .u32 a3] w fun e w' => e = .returned (.tuple #[.int .u32 (putV a0 a1 a2 a3), .int .i64 0]) ∧ ∃ n, w' = w.drewN n := by
      intro w; have h := put_c a0 a1 a2 a3 hw hv w; rwa [hz] at h
    have K2 : ∀ w : World, Calls Try.prog 10 #[.int .u32 (putV a0 a1 a2 a3), .int .i64 a1, .int .i64 a2] w fun e w' => e = .returned (.tuple #[.int .u32 a3, .int .i64 0]) ∧ ∃ n, w' = w.drewN n := by
      intro w; have h := field_c (putV a0 a1 a2 a3) a1 a2 b1 w; rwa [e1, e4] at h
    have K3 : ∀ w : World, Calls Try.prog 10 #[.int .u32 a0, .int .i64 a1, .int .i64 a2] w fun e w' => e = .returned (.tuple #[.int .u32 (fieldV a0 a1 a2), .int .i64 0]) ∧ ∃ n, w' = w.drewN n := by
      intro w; have h := field_c a0 a1 a2 hw w; rwa [e4] at h
    have K4 : ∀ w : World, Calls Try.prog 12 #[.int .u32 (putV a0 a1 a2 a3), .int .i64 a1, .int .i64 a2, .int .u32 (fieldV a0 a1 a2)] w fun e w' => e = .returned (.tuple #[.int .u32 a0, .int .i64 0]) ∧ ∃ n, w' = w.drewN n := by
      intro w; have h := put_c (putV a0 a1 a2 a3) a1 a2 (fieldV a0 a1 a2) b1 b2 w; rwa [e2, e3] at h
    clear hz b1 b2 e1 e2 hb e3 e4 hw hv
    replace K1 := hide K1
    replace K2 := hide K2
    replace K3 := hide K3
    replace K4 := hide K4
    go_enter Try.func7, Try.ntmps7
    go_wp2_with fail
    refine (examples_c _).mono ?_
    rintro e w1 ⟨rfl, m0, rfl⟩
    go_wp2_with fail
    refine (unhide K1 _).mono ?_
    rintro e w1 ⟨rfl, m1, rfl⟩
    go_wp2_with fail
    refine (unhide K2 _).mono ?_
    rintro e w1 ⟨rfl, m2, rfl⟩
    go_wp2_with fail
    refine (unhide K3 _).mono ?_
    rintro e w1 ⟨rfl, m3, rfl⟩
    go_wp2_with fail
    refine (unhide K4 _).mono ?_
    rintro e w1 ⟨rfl, m4, rfl⟩
    go_wp2
    go_ret
    exact ⟨rfl, grown_drewN _ _⟩
  · have e1 := put_not (word := a0) hz
    have K1 : ∀ w : World, Calls Try.prog 12 #[.int .u32 a0, .int .i64 a1, .int .i64 a2, .int .u32 a3] w fun e w' => e = .returned (.tuple #[.int .u32 0, .int .i64 (putE a1 a2 a3)]) ∧ ∃ n, w' = w.drewN n := by
      intro w; have h := put_c a0 a1 a2 a3 hw hv w; rwa [e1] at h
    have hz2 : (putE a1 a2 a3 != 0) = true := by simpa using hz
    clear e1 hz
    replace K1 := hide K1
    go_enter Try.func7, Try.ntmps7
    go_wp2_with fail
    refine (examples_c _).mono ?_
    rintro e w1 ⟨rfl, m0, rfl⟩
    go_wp2_with fail
    refine (unhide K1 _).mono ?_
    rintro e w1 ⟨rfl, m1, rfl⟩
    go_wp2
    go_ret
    exact ⟨rfl, grown_drewN _ _⟩

set_option maxRecDepth 100000 in
theorem lifted (os : Os) (started : os.Started) (H : Type) (enc : TypeId × Value → H) :
    ReturnsInHanded {} Try.checked os 7 .any (Rows.bitsBackSpec.pre6 enc Try.prog Try.f7 Rows.bitsBackRow.domain false) (Rows.bitsBackSpec.post enc Try.prog Try.f7 false true false false) := by
  refine returnsInHanded_of_change (C := Try.checked) own started (by kernel_rfl) Try.func7
    (ChangeSpec.witness6 (enc := enc) (C := Try.checked) false ⟨#[], #[.int .u32 0, .int .i64 0, .int .i64 0, .int .u32 0], []⟩ 8 (by kernel_rfl) (by kernel_rfl) (by kernel_rfl) (by kernel_rfl)) ?_
  intro W base args ds gs before hval0 hW hcnd _
  have hval : ∀ (j : Nat) t v, Try.f7.params[j]? = some t → args[j]? = some v → Value.okWide Try.prog W .any base t v := hval0
  have hW' := hW
  obtain ⟨p, q, hA0, hV, rfl, hfz, hnd⟩ := hW
  have hA : DataW.TrodAll enc Try.prog W 0 (fun _ => true) true Try.f7.params.toList args.toList ds p := hA0
  rw [Try.params7] at hA hval
  obtain ⟨v0, vs0, d0, ds0, p0, q0, hargs, rfl, rfl, h0, r0⟩ := trodAll_cons hA
  obtain ⟨v1, vs1, d1, ds1, p1, q1, rfl, rfl, rfl, h1, r1⟩ := trodAll_cons r0
  obtain ⟨v2, vs2, d2, ds2, p2, q2, rfl, rfl, rfl, h2, r2⟩ := trodAll_cons r1
  obtain ⟨v3, vs3, d3, ds3, p3, q3, rfl, rfl, rfl, h3, r3⟩ := trodAll_cons r2
  obtain ⟨rfl, rfl, rfl⟩ := trodAll_nil r3
  obtain rfl : args = #[v0, v1, v2, v3] := by cases args; simp_all
  obtain ⟨rfl, rfl⟩ := trodVars_none hV
  obtain ⟨a0, rfl, rfl, rfl, w0⟩ := open_int Try.underlying22 (hval 0 22 v0 rfl rfl) h0
  obtain ⟨a1, rfl, rfl, rfl, w1⟩ := open_int Try.underlying3 (hval 1 3 v1 rfl rfl) h1
  obtain ⟨a2, rfl, rfl, rfl, w2⟩ := open_int Try.underlying3 (hval 2 3 v2 rfl rfl) h2
  obtain ⟨a3, rfl, rfl, rfl, w3⟩ := open_int Try.underlying22 (hval 3 22 v3 rfl rfl) h3
  clear hA0 hval0
  simp only [List.append_nil] at hW'
  refine (walk a0 a1 a2 a3 w0 w1 w2 w3 W).mono fun e W' ⟨he, hg⟩ => ?_
  subst he
  exact ⟨_, rfl, post_of_same (pa := []) (pv := []) hW' (fun _ _ _ => (trodAll_cons_mk (shut_bool Try.underlying4 _) trodAll_mk0)) (fun sp _ => (trodAll_cons_mk (shut_int Try.underlying22 w0) (trodAll_cons_mk (shut_int Try.underlying3 w1) (trodAll_cons_mk (shut_int Try.underlying3 w2) (trodAll_cons_mk (shut_int Try.underlying22 w3) trodAll_mk0))))) (fun _ _ => rfl) rfl
    (hg.frame _) hg.2.1 (ok_one (by kernel_rfl) rfl (okWide_bool_mk Try.underlying4 _))⟩

theorem over : Rows.bitsBackRow.holds Try.pinned (OpenSpec.ofChange Rows.bitsBackSpec) :=
  OpenClaim.holds_of_wide 7 Try.f7 rfl rfl rfl rfl rfl rfl rfl ⟨rfl, rfl, rfl, rfl, rfl⟩ rfl rfl rfl rfl rfl (by kernel_rfl) Try.func7 (by kernel_rfl)
    (of_decide_eq_true (by kernel_rfl)) (by unfold Func.isWrapper; first | (rw [if_pos (by decide +kernel)]; kernel_rfl) | (rw [if_neg (by decide +kernel)]; exact ⟨rfl, rfl⟩))
    (fun os started H enc _ => lifted os started H enc)

theorem proved : Rows.BitsBackSaid :=
  over
end Go.Proofs.Ytpoaapncfojhoaa.bitsBack

namespace Go.Proofs.Ytpoaapncfojhoaa
theorem bitsBack_holds : Rows.BitsBackSaid := bitsBack.proved
#print axioms bitsBack_holds
end Go.Proofs.Ytpoaapncfojhoaa
