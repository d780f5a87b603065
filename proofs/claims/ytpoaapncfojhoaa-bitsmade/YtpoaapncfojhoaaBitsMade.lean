/- For all three numbers, and for every number besides: the parts of a mask make it again, every mask that Mask makes has parts and is neither none nor all ones, and what Parts refuses has no parts: BitsMade returns true, whatever its arguments. -/
import Derived.Test.YtpoaapncfojhoaaEnds
import Derived.Test.YtpoaapncfojhoaaMade
import Derived.WalkKit
import Derived.ProofKit
import Derived.OpenShut
namespace Go.Proofs.Ytpoaapncfojhoaa.bitsMade
open Go.ChangeShapes Go.WideShapes Go.ChangeAt Go.RowKit
set_option linter.unusedVariables false

theorem own : ownKnob Try.prog.godebug = none := by kernel_rfl

set_option maxHeartbeats 800000 in
theorem walk (a0 : Int) (a1 : Int) (a2 : Int) (a3 : Int) (w0 : (Lit.int .i64 a0).wf = true) (w1 : (Lit.int .i64 a1).wf = true) (w2 : (Lit.int .i64 a2).wf = true) (w3 : (Lit.int .u64 a3).wf = true) (w : World) :
    Calls Try.prog 8 #[.int .i64 a0, .int .i64 a1, .int .i64 a2, .int .u64 a3] w fun e w' => e = .returned (.bool true) ∧ Grown w w' := by
  have hv := bnd64 w3
  clear w0 w1 w2 w3
  have hb := mask_bounds a0 a1 a2
  by_cases hz : maskE a0 a1 a2 = 0
  · obtain ⟨t, s, r, hh⟩ := mask_hit hz
    obtain ⟨g1, g2⟩ := hit_mid hh
    have e1 : (maskV a0 a1 a2 == 0) = false := by rw [beq_eq_false_iff_ne]; omega
    have e2 : (maskV a0 a1 a2 == 18446744073709551615) = false := by rw [beq_eq_false_iff_ne]; omega
    have H : Hid (hit (maskV a0 a1 a2).toNat t s r) := hh
    have K : Hid (∀ w : World, Calls Try.prog 18 #[.int .i64 a0, .int .i64 a1, .int .i64 a2] w fun e w' => e = .returned (.tuple #[.int .u64 (maskV a0 a1 a2), .int .i64 0]) ∧ ∃ m, w' = w.drewN m) := by
      intro w; have h := mask_c a0 a1 a2 w; rwa [hz] at h
    clear hh g1 g2 hz
    go_enter Try.func8, Try.ntmps8
    go_wp2_with fail
    refine (examples_c _).mono ?_
    rintro e w1 ⟨rfl, m0, rfl⟩
    go_wp2_with fail
    refine (unhide K _).mono ?_
    rintro e w1 ⟨rfl, m1, rfl⟩
    go_wp2_with fail
    refine (parts_m _ hb _).mono ?_
    rintro e w1 ⟨⟨a, b, c, d, rfl, ⟨rfl, hm⟩ | ⟨rfl, rfl, rfl, rfl, hno⟩⟩, m2, rfl⟩
    · go_wp2_with fail
      refine (mask_m hm _).mono ?_
      rintro e w1 ⟨rfl, m3, rfl⟩
      go_wp2_with fail
      refine (parts_m _ hv _).mono ?_
      rintro e w1 ⟨⟨x, y, z, d, rfl, ⟨rfl, hm⟩ | ⟨rfl, rfl, rfl, rfl, hno⟩⟩, k1, rfl⟩
      · go_wp2_with fail
        refine (mask_m hm _).mono ?_
        rintro e w1 ⟨rfl, k2, rfl⟩
        go_wp2
        go_ret
        exact ⟨rfl, grown_drewN _ _⟩
      · go_wp2
        go_ret
        exact ⟨rfl, grown_drewN _ _⟩
    · exact absurd H.out (hno.out t s r)
  · have hz2 : (maskE a0 a1 a2 == 0) = false := by rw [beq_eq_false_iff_ne]; exact hz
    clear hz hb
    go_enter Try.func8, Try.ntmps8
    go_wp2_with fail
    refine (examples_c _).mono ?_
    rintro e w1 ⟨rfl, m0, rfl⟩
    go_wp2_with fail
    refine (mask_c _ _ _ _).mono ?_
    rintro e w1 ⟨rfl, m1, rfl⟩
    go_wp2_with fail
    refine (parts_m _ hv _).mono ?_
    rintro e w1 ⟨⟨x, y, z, d, rfl, ⟨rfl, hm⟩ | ⟨rfl, rfl, rfl, rfl, hno⟩⟩, k1, rfl⟩
    · go_wp2_with fail
      refine (mask_m hm _).mono ?_
      rintro e w1 ⟨rfl, k2, rfl⟩
      go_wp2
      go_ret
      exact ⟨rfl, grown_drewN _ _⟩
    · go_wp2
      go_ret
      exact ⟨rfl, grown_drewN _ _⟩

set_option maxRecDepth 100000 in
theorem lifted (os : Os) (started : os.Started) (H : Type) (enc : TypeId × Value → H) :
    ReturnsInHanded {} Try.checked os 8 .any (Rows.bitsMadeSpec.pre6 enc Try.prog Try.f8 Rows.bitsMadeRow.domain false) (Rows.bitsMadeSpec.post enc Try.prog Try.f8 false true false false) := by
  refine returnsInHanded_of_change (C := Try.checked) own started (by kernel_rfl) Try.func8
    (ChangeSpec.witness6 (enc := enc) (C := Try.checked) false ⟨#[], #[.int .i64 0, .int .i64 0, .int .i64 0, .int .u64 0], []⟩ 8 (by kernel_rfl) (by kernel_rfl) (by kernel_rfl) (by kernel_rfl)) ?_
  intro W base args ds gs before hval0 hW hcnd _
  have hval : ∀ (j : Nat) t v, Try.f8.params[j]? = some t → args[j]? = some v → Value.okWide Try.prog W .any base t v := hval0
  have hW' := hW
  obtain ⟨p, q, hA0, hV, rfl, hfz, hnd⟩ := hW
  have hA : DataW.TrodAll enc Try.prog W 0 (fun _ => true) true Try.f8.params.toList args.toList ds p := hA0
  rw [Try.params8] at hA hval
  obtain ⟨v0, vs0, d0, ds0, p0, q0, hargs, rfl, rfl, h0, r0⟩ := trodAll_cons hA
  obtain ⟨v1, vs1, d1, ds1, p1, q1, rfl, rfl, rfl, h1, r1⟩ := trodAll_cons r0
  obtain ⟨v2, vs2, d2, ds2, p2, q2, rfl, rfl, rfl, h2, r2⟩ := trodAll_cons r1
  obtain ⟨v3, vs3, d3, ds3, p3, q3, rfl, rfl, rfl, h3, r3⟩ := trodAll_cons r2
  obtain ⟨rfl, rfl, rfl⟩ := trodAll_nil r3
  obtain rfl : args = #[v0, v1, v2, v3] := by cases args; simp_all
  obtain ⟨rfl, rfl⟩ := trodVars_none hV
  obtain ⟨a0, rfl, rfl, rfl, w0⟩ := open_int Try.underlying3 (hval 0 3 v0 rfl rfl) h0
  obtain ⟨a1, rfl, rfl, rfl, w1⟩ := open_int Try.underlying3 (hval 1 3 v1 rfl rfl) h1
  obtain ⟨a2, rfl, rfl, rfl, w2⟩ := open_int Try.underlying3 (hval 2 3 v2 rfl rfl) h2
  obtain ⟨a3, rfl, rfl, rfl, w3⟩ := open_int Try.underlying32 (hval 3 32 v3 rfl rfl) h3
  clear hA0 hval0
  simp only [List.append_nil] at hW'
  refine (walk a0 a1 a2 a3 w0 w1 w2 w3 W).mono fun e W' ⟨he, hg⟩ => ?_
  subst he
  exact ⟨_, rfl, post_of_same (pa := []) (pv := []) hW' (fun _ _ _ => (trodAll_cons_mk (shut_bool Try.underlying4 _) trodAll_mk0)) (fun sp _ => (trodAll_cons_mk (shut_int Try.underlying3 w0) (trodAll_cons_mk (shut_int Try.underlying3 w1) (trodAll_cons_mk (shut_int Try.underlying3 w2) (trodAll_cons_mk (shut_int Try.underlying32 w3) trodAll_mk0))))) (fun _ _ => rfl) rfl
    (hg.frame _) hg.2.1 (ok_one (by kernel_rfl) rfl (okWide_bool_mk Try.underlying4 _))⟩

theorem over : Rows.bitsMadeRow.holds Try.pinned (OpenSpec.ofChange Rows.bitsMadeSpec) :=
  OpenClaim.holds_of_wide 8 Try.f8 rfl rfl rfl rfl rfl rfl rfl ⟨rfl, rfl, rfl, rfl, rfl⟩ rfl rfl rfl rfl rfl (by kernel_rfl) Try.func8 (by kernel_rfl)
    (of_decide_eq_true (by kernel_rfl)) (by unfold Func.isWrapper; first | (rw [if_pos (by decide +kernel)]; kernel_rfl) | (rw [if_neg (by decide +kernel)]; exact ⟨rfl, rfl⟩))
    (fun os started H enc _ => lifted os started H enc)

theorem proved : Rows.BitsMadeSaid :=
  over
end Go.Proofs.Ytpoaapncfojhoaa.bitsMade

namespace Go.Proofs.Ytpoaapncfojhoaa
theorem bitsMade_holds : Rows.BitsMadeSaid := bitsMade.proved
#print axioms bitsMade_holds
end Go.Proofs.Ytpoaapncfojhoaa
