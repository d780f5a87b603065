/- For every number, all turns up to 2^30 and every number of bits: bits that are turned all the way round are as they were, and turned twice as by the sum: BitsTurns returns true, whatever its arguments. -/
import Derived.Test.YtpoaapncfojhoabEnds
import Derived.Test.YtpoaapncfojhoabPlainF
import Derived.WalkKit
import Derived.ProofKit
import Derived.OpenShut
namespace Go.Proofs.Ytpoaapncfojhoab.bitsTurns
open Go.ChangeShapes Go.WideShapes Go.ChangeAt Go.RowKit
set_option linter.unusedVariables false

theorem own : ownKnob Try.prog.godebug = none := by kernel_rfl

set_option maxHeartbeats 800000 in
theorem walk (a0 : Int) (a1 : Int) (a2 : Int) (a3 : Int) (w0 : (Lit.int .u64 a0).wf = true) (w1 : (Lit.int .i64 a1).wf = true) (w2 : (Lit.int .i64 a2).wf = true) (w3 : (Lit.int .i64 a3).wf = true) (w : World) :
    Calls Try.prog 3 #[.int .u64 a0, .int .i64 a1, .int .i64 a2, .int .i64 a3] w fun e w' => e = .returned (.bool true) ∧ Grown w w' := by
  have hv := bnd64 w0
  clear w0 w1 w2 w3
  by_cases hin : 0 ≤ a1 ∧ 0 ≤ a2 ∧ a1 ≤ 1073741824 ∧ a2 ≤ 1073741824
  · obtain ⟨i1, i2, i3, i4⟩ := hin
    by_cases hz : rorE a0 a1 a3 = 0
    · have K1 : Hid (∀ w : World, Calls Try.prog 5 #[.int .u64 a0, .int .i64 a1, .int .i64 a3] w fun e w' => e = .returned (.tuple #[.int .u64 (rorV a0 a1 a3), .int .i64 0]) ∧ ∃ n, w' = w.drewN n) := by
        intro w; have h := ror_c a0 a1 a3 hv w; rwa [hz] at h
      have K2 : Hid (∀ w : World, Calls Try.prog 5 #[.int .u64 (rorV a0 a1 a3), .int .i64 a2, .int .i64 a3] w fun e w' => e = .returned (.tuple #[.int .u64 (rorV a0 (a1 + a2) a3), .int .i64 0]) ∧ ∃ n, w' = w.drewN n) := by
        intro w; have h := ror_c (rorV a0 a1 a3) a2 a3 (ror_bounds _ _ _) w; rwa [ror_twice hz i2, rorE_twice hz i2] at h
      have K3 : Hid (∀ w : World, Calls Try.prog 5 #[.int .u64 a0, .int .i64 (a1 + a2), .int .i64 a3] w fun e w' => e = .returned (.tuple #[.int .u64 (rorV a0 (a1 + a2) a3), .int .i64 0]) ∧ ∃ n, w' = w.drewN n) := by
        intro w; have h := ror_c a0 (a1 + a2) a3 hv w; rwa [rorE_other hz (by omega)] at h
      have K4 : Hid (∀ w : World, Calls Try.prog 5 #[.int .u64 a0, .int .i64 a3, .int .i64 a3] w fun e w' => e = .returned (.tuple #[.int .u64 a0, .int .i64 0]) ∧ ∃ n, w' = w.drewN n) := by
        intro w; have h := ror_c a0 a3 a3 hv w; have hm := inNum_of (rorE_of hz).1; rwa [ror_round hv hz, rorE_other hz (by omega)] at h
      clear hz
      go_enter Try.func3, Try.ntmps3
      go_wp2_with fail
      refine (examples_c _).mono ?_
      rintro e w1 ⟨rfl, m0, rfl⟩
      go_wp2_with fail
      refine (unhide K1 _).mono ?_
      rintro e w1 ⟨rfl, m1, rfl⟩
      go_wp2_with fail
      refine (unhide K2 _).mono ?_
      rintro e w1 ⟨rfl, m2, rfl⟩
      go_wp2_with fail
      refine (unhide K3 _).mono ?_
      rintro e w1 ⟨rfl, m3, rfl⟩
      go_wp2_with fail
      refine (unhide K4 _).mono ?_
      rintro e w1 ⟨rfl, m4, rfl⟩
      go_wp2
      go_ret
      exact ⟨rfl, grown_drewN _ _⟩
    · have K1 : Hid (∀ w : World, Calls Try.prog 5 #[.int .u64 a0, .int .i64 a1, .int .i64 a3] w fun e w' => e = .returned (.tuple #[.int .u64 0, .int .i64 (rorE a0 a1 a3)]) ∧ ∃ n, w' = w.drewN n) := by
        intro w; have h := ror_c a0 a1 a3 hv w; rwa [ror_not hz] at h
      have hz2 : (rorE a0 a1 a3 != 0) = true := by simpa using hz
      clear hz
      go_enter Try.func3, Try.ntmps3
      go_wp2_with fail
      refine (examples_c _).mono ?_
      rintro e w1 ⟨rfl, m0, rfl⟩
      go_wp2_with fail
      refine (unhide K1 _).mono ?_
      rintro e w1 ⟨rfl, m1, rfl⟩
      go_wp2
      go_ret
      exact ⟨rfl, grown_drewN _ _⟩
  · have hn : Hid (¬ (0 ≤ a1 ∧ 0 ≤ a2 ∧ a1 ≤ 1073741824 ∧ a2 ≤ 1073741824)) := hin
    clear hin
    go_enter Try.func3, Try.ntmps3
    go_wp2_with fail
    refine (examples_c _).mono ?_
    rintro e w1 ⟨rfl, m0, rfl⟩
    go_wp2_with fail
    all_goals first | (exfalso; have := hn.out; omega) | (go_ret; exact ⟨rfl, grown_drewN _ _⟩)

set_option maxRecDepth 100000 in
theorem lifted (os : Os) (started : os.Started) (H : Type) (enc : TypeId × Value → H) :
    ReturnsInHanded {} Try.checked os 3 .any (Rows.bitsTurnsSpec.pre6 enc Try.prog Try.f3 Rows.bitsTurnsRow.domain false) (Rows.bitsTurnsSpec.post enc Try.prog Try.f3 false true false false) := by
  refine returnsInHanded_of_change (C := Try.checked) own started (by kernel_rfl) Try.func3
    (ChangeSpec.witness6 (enc := enc) (C := Try.checked) false ⟨#[], #[.int .u64 0, .int .i64 0, .int .i64 0, .int .i64 0], []⟩ 8 (by kernel_rfl) (by kernel_rfl) (by kernel_rfl) (by kernel_rfl)) ?_
  intro W base args ds gs before hval0 hW hcnd _
  have hval : ∀ (j : Nat) t v, Try.f3.params[j]? = some t → args[j]? = some v → Value.okWide Try.prog W .any base t v := hval0
  have hW' := hW
  obtain ⟨p, q, hA0, hV, rfl, hfz, hnd⟩ := hW
  have hA : DataW.TrodAll enc Try.prog W 0 (fun _ => true) true Try.f3.params.toList args.toList ds p := hA0
  rw [Try.params3] at hA hval
  obtain ⟨v0, vs0, d0, ds0, p0, q0, hargs, rfl, rfl, h0, r0⟩ := trodAll_cons hA
  obtain ⟨v1, vs1, d1, ds1, p1, q1, rfl, rfl, rfl, h1, r1⟩ := trodAll_cons r0
  obtain ⟨v2, vs2, d2, ds2, p2, q2, rfl, rfl, rfl, h2, r2⟩ := trodAll_cons r1
  obtain ⟨v3, vs3, d3, ds3, p3, q3, rfl, rfl, rfl, h3, r3⟩ := trodAll_cons r2
  obtain ⟨rfl, rfl, rfl⟩ := trodAll_nil r3
  obtain rfl : args = #[v0, v1, v2, v3] := by cases args; simp_all
  obtain ⟨rfl, rfl⟩ := trodVars_none hV
  obtain ⟨a0, rfl, rfl, rfl, w0⟩ := open_int Try.underlying22 (hval 0 22 v0 rfl rfl) h0
  obtain ⟨a1, rfl, rfl, rfl, w1⟩ := open_int Try.underlying3 (hval 1 3 v1 rfl rfl) h1
  obtain ⟨a2, rfl, rfl, rfl, w2⟩ := open_int Try.underlying3 (hval 2 3 v2 rfl rfl) h2
  obtain ⟨a3, rfl, rfl, rfl, w3⟩ := open_int Try.underlying3 (hval 3 3 v3 rfl rfl) h3
  clear hA0 hval0
  simp only [List.append_nil] at hW'
  refine (walk a0 a1 a2 a3 w0 w1 w2 w3 W).mono fun e W' ⟨he, hg⟩ => ?_
  subst he
  exact ⟨_, rfl, post_of_same (pa := []) (pv := []) hW' (fun _ _ _ => (trodAll_cons_mk (shut_bool Try.underlying4 _) trodAll_mk0)) (fun sp _ => (trodAll_cons_mk (shut_int Try.underlying22 w0) (trodAll_cons_mk (shut_int Try.underlying3 w1) (trodAll_cons_mk (shut_int Try.underlying3 w2) (trodAll_cons_mk (shut_int Try.underlying3 w3) trodAll_mk0))))) (fun _ _ => rfl) rfl
    (hg.frame _) hg.2.1 (ok_one (by kernel_rfl) rfl (okWide_bool_mk Try.underlying4 _))⟩

theorem over : Rows.bitsTurnsRow.holds Try.pinned (OpenSpec.ofChange Rows.bitsTurnsSpec) :=
  OpenClaim.holds_of_wide 3 Try.f3 rfl rfl rfl rfl rfl rfl rfl ⟨rfl, rfl, rfl, rfl, rfl⟩ rfl rfl rfl rfl rfl (by kernel_rfl) Try.func3 (by kernel_rfl)
    (of_decide_eq_true (by kernel_rfl)) (by unfold Func.isWrapper; first | (rw [if_pos (by decide +kernel)]; kernel_rfl) | (rw [if_neg (by decide +kernel)]; exact ⟨rfl, rfl⟩))
    (fun os started H enc _ => lifted os started H enc)

theorem proved : Rows.BitsTurnsSaid :=
  over
end Go.Proofs.Ytpoaapncfojhoab.bitsTurns

namespace Go.Proofs.Ytpoaapncfojhoab
theorem bitsTurns_holds : Rows.BitsTurnsSaid := bitsTurns.proved
#print axioms bitsTurns_holds
end Go.Proofs.Ytpoaapncfojhoab
