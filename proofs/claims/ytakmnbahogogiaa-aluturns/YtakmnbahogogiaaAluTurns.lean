/- For all numbers: bits that package alu moves by all are where they were, a shift up and down again loses the highest ones alone, and what is moved with its sign has the bits that it has without: AluTurns returns true, whatever its arguments. -/
import Derived.Test.YtakmnbahogogiaaExs
import Derived.Test.YtakmnbahogogiaaFlat
import Derived.Test.YtakmnbahogogiaaLaw
namespace Go.Proofs.Ytakmnbahogogiaa.aluTurns
open Go.ChangeShapes Go.WideShapes Go.ChangeAt Go.RowKit
set_option linter.unusedVariables false

theorem own : ownKnob Try.prog.godebug = none := by kernel_rfl
theorem u64_of {a : Int} (h : (Lit.int .u64 a).wf = true) : Hid (U64 a) := by
  have := bounds_u64 h
  exact ⟨this.1, by omega⟩
set_option maxRecDepth 4000 in
set_option maxHeartbeats 4000000 in
theorem walk (a0 : Int) (a1 : Int) (a2 : Int) (a3 : Int) (w0 : (Lit.int .u64 a0).wf = true) (w1 : (Lit.int .i64 a1).wf = true) (w2 : (Lit.int .i64 a2).wf = true) (w3 : (Lit.int .i64 a3).wf = true) (w : World) :
    Calls Try.prog 8 #[.int .u64 a0, .int .i64 a1, .int .i64 a2, .int .i64 a3] w fun e w' => e = .returned (.bool true) ∧ Below w.heap.size w w' := by
  have hv := u64_of w0
  clear w0 w1 w2 w3
  have H := has_none w
  cases hp : placeB a1 with
  | false =>
    have e1 : shiftV a0 3 a1 = 0 := by simp [shiftV, shiftB, hp]
    have e2 : shiftE 3 a1 = 1 := by simp [shiftE, shiftB, hp]
    go_enter Try.func8, Try.ntmps8
    go_wp2_with (first | (go_at_call 9; refine (examples_c _).mono ?_; rintro e w1 ⟨rfl, hx⟩; replace H := H.grow hx; clear hx; dsimp only) | (go_at_call 14; refine (Shift_c _ _ _ hv _).mono ?_; rintro e w1 ⟨rfl, hx⟩; replace H := H.grow hx; clear hx; dsimp only))
    go_ret
    exact ⟨rfl, H.below⟩
  | true =>
    obtain ⟨y0, y1⟩ := place_yes hp
    obtain ⟨y, rfl⟩ := Int.eq_ofNat_of_zero_le y0
    have hy : y ≤ 63 := by omega
    have s3 : ∀ (v : Int) (z : Int), placeB z = true → shiftV v 3 z = reckonV 12 v z ∧ shiftE 3 z = 0 := fun v z h => by simp [shiftV, shiftE, shiftB, h]
    have s0 : ∀ (v : Int) (z : Int), placeB z = true → shiftV v 0 z = reckonV 9 v z ∧ shiftE 0 z = 0 := fun v z h => by simp [shiftV, shiftE, shiftB, h]
    have s1 : ∀ (v : Int) (z : Int), placeB z = true → shiftV v 1 z = reckonV 10 v z ∧ shiftE 1 z = 0 := fun v z h => by simp [shiftV, shiftE, shiftB, h]
    have hp2 : placeB ((64 - (y : Int)) % 64) = true := by
      unfold placeB
      rw [decide_eq_true_eq]
      omega
    have t := turn_back hv.out hy
    have u := updown hv.out hy
    have hx := whole_same hv.out
    have C1 : ∀ w, Calls Try.prog 14 #[.int .u64 a0, .int .i64 3, .int .i64 (y : Int)] w fun e w' => e = .returned (.tuple #[.int .u64 (reckonV 12 a0 (y : Int)), .int .i64 0]) ∧ Below w.heap.size w w' := fun w => by
      have h := Shift_c a0 3 (y : Int) hv w
      rwa [(s3 _ _ hp).1, (s3 0 _ hp).2] at h
    have C2 : ∀ w, Calls Try.prog 14 #[.int .u64 (reckonV 12 a0 (y : Int)), .int .i64 3, .int .i64 (-(y : Int) % 64)] w fun e w' => e = .returned (.tuple #[.int .u64 a0, .int .i64 0]) ∧ Below w.heap.size w w' := fun w => by
      have h := Shift_c (reckonV 12 a0 (y : Int)) 3 ((64 - (y : Int)) % 64) t.1 w
      rwa [(s3 _ _ hp2).1, (s3 0 _ hp2).2, t.2, show (64 - (y : Int)) % 64 = -(y : Int) % 64 by omega] at h
    have C3 : ∀ w, Calls Try.prog 14 #[.int .u64 a0, .int .i64 0, .int .i64 (y : Int)] w fun e w' => e = .returned (.tuple #[.int .u64 (reckonV 9 a0 (y : Int)), .int .i64 0]) ∧ Below w.heap.size w w' := fun w => by
      have h := Shift_c a0 0 (y : Int) hv w
      rwa [(s0 _ _ hp).1, (s0 0 _ hp).2] at h
    have C4 : ∀ w, Calls Try.prog 14 #[.int .u64 (reckonV 9 a0 (y : Int)), .int .i64 1, .int .i64 (y : Int)] w fun e w' => e = .returned (.tuple #[.int .u64 (bits .and .u64 a0 (18446744073709551615 / 2 ^ y)), .int .i64 0]) ∧ Below w.heap.size w w' := fun w => by
      have h := Shift_c (reckonV 9 a0 (y : Int)) 1 (y : Int) u.1 w
      rwa [(s1 _ _ hp).1, (s1 0 _ hp).2, u.2] at h
    have C5 : ∀ w, Calls Try.prog 16 #[.int .u64 a0, .bool true, .int .i64 0, .int .i64 63] w fun e w' => e = .returned (.tuple #[.int .u64 a0, .int .i64 0]) ∧ w' = w := fun w => by
      have h := Field_c a0 true 0 63 w
      rwa [hx.1, hx.2] at h
    have n0 : 0 ≤ 64 - (y : Int) := by omega
    clear s0 s1 s3 t u hx hp hp2 hv
    cases hm : moveB a2 a3 with
    | false =>
      have C6 : ∀ w, Calls Try.prog 16 #[.int .u64 a0, .bool false, .int .i64 a2, .int .i64 a3] w fun e w' => e = .returned (.tuple #[.int .u64 0, .int .i64 1]) ∧ w' = w := fun w => by
        have h := Field_c a0 false a2 a3 w
        rwa [show moveV a0 false a2 a3 = 0 by simp [moveV, hm], show moveE a2 a3 = 1 by simp [moveE, hm]] at h
      have C7 : ∀ w, Calls Try.prog 16 #[.int .u64 a0, .bool true, .int .i64 a2, .int .i64 a3] w fun e w' => e = .returned (.tuple #[.int .u64 0, .int .i64 1]) ∧ w' = w := fun w => by
        have h := Field_c a0 true a2 a3 w
        rwa [show moveV a0 true a2 a3 = 0 by simp [moveV, hm], show moveE a2 a3 = 1 by simp [moveE, hm]] at h
      have z0 : bits .and .u64 0 0 = 0 := by decide
      go_enter Try.func8, Try.ntmps8
      go_upto_region 5 with (first | (go_at_call 9; refine (examples_c _).mono ?_; rintro e w1 ⟨rfl, hx⟩; replace H := H.grow hx; clear hx; dsimp only) | (go_at_call 14; refine (C1 _).mono ?_; rintro e w1 ⟨rfl, hx⟩; replace H := H.grow hx; clear hx; dsimp only))
      go_upto_region 6 with (go_at_call 14; refine (C2 _).mono ?_; rintro e w1 ⟨rfl, hx⟩; replace H := H.grow hx; clear hx; dsimp only)
      go_upto_region 7 with (go_at_call 14; refine (C3 _).mono ?_; rintro e w1 ⟨rfl, hx⟩; replace H := H.grow hx; clear hx; dsimp only)
      go_upto_region 8 with (go_at_call 14; refine (C4 _).mono ?_; rintro e w1 ⟨rfl, hx⟩; replace H := H.grow hx; clear hx; dsimp only)
      go_upto_region 9 with (go_at_call 16; refine (C5 _).mono ?_; rintro e w1 ⟨rfl, rfl⟩)
      go_upto_region 10 with (go_at_call 16; refine (C6 _).mono ?_; rintro e w1 ⟨rfl, rfl⟩)
      go_upto_region 11 with (go_at_call 16; refine (C7 _).mono ?_; rintro e w1 ⟨rfl, rfl⟩)
      go_wp2_with fail
      go_ret
      exact ⟨rfl, H.below⟩
    | true =>
      have q := hm
      unfold moveB at q
      rw [Bool.and_eq_true] at q
      obtain ⟨r0, r1⟩ := place_yes q.1
      obtain ⟨i0, i1⟩ := place_yes q.2
      obtain ⟨r, rfl⟩ := Int.eq_ofNat_of_zero_le r0
      obtain ⟨s, rfl⟩ := Int.eq_ofNat_of_zero_le i0
      have C6 : ∀ w, Calls Try.prog 16 #[.int .u64 a0, .bool false, .int .i64 (r : Int), .int .i64 (s : Int)] w fun e w' => e = .returned (.tuple #[.int .u64 (moveW a0 false r s), .int .i64 0]) ∧ w' = w := fun w => by
        have h := Field_c a0 false (r : Int) (s : Int) w
        rwa [show moveV a0 false (r : Int) (s : Int) = moveW a0 false r s by simp [moveV, hm], show moveE (r : Int) (s : Int) = 0 by simp [moveE, hm]] at h
      have C7 : ∀ w, Calls Try.prog 16 #[.int .u64 a0, .bool true, .int .i64 (r : Int), .int .i64 (s : Int)] w fun e w' => e = .returned (.tuple #[.int .u64 (moveW a0 true r s), .int .i64 0]) ∧ w' = w := fun w => by
        have h := Field_c a0 true (r : Int) (s : Int) w
        rwa [show moveV a0 true (r : Int) (s : Int) = moveW a0 true r s by simp [moveV, hm], show moveE (r : Int) (s : Int) = 0 by simp [moveE, hm]] at h
      have z0 : (bits .and .u64 (moveW a0 false r s) (moveW a0 true r s) == moveW a0 false r s) = true := by rw [part_and (by omega) (by omega)]; simp
      clear q hm
      by_cases hrs : s < r
      · have hrs' : (s : Int) < r := by omega
        clear hrs
        go_enter Try.func8, Try.ntmps8
        go_upto_region 5 with (first | (go_at_call 9; refine (examples_c _).mono ?_; rintro e w1 ⟨rfl, hx⟩; replace H := H.grow hx; clear hx; dsimp only) | (go_at_call 14; refine (C1 _).mono ?_; rintro e w1 ⟨rfl, hx⟩; replace H := H.grow hx; clear hx; dsimp only))
        go_upto_region 6 with (go_at_call 14; refine (C2 _).mono ?_; rintro e w1 ⟨rfl, hx⟩; replace H := H.grow hx; clear hx; dsimp only)
        go_upto_region 7 with (go_at_call 14; refine (C3 _).mono ?_; rintro e w1 ⟨rfl, hx⟩; replace H := H.grow hx; clear hx; dsimp only)
        go_upto_region 8 with (go_at_call 14; refine (C4 _).mono ?_; rintro e w1 ⟨rfl, hx⟩; replace H := H.grow hx; clear hx; dsimp only)
        go_upto_region 9 with (go_at_call 16; refine (C5 _).mono ?_; rintro e w1 ⟨rfl, rfl⟩)
        go_upto_region 10 with (go_at_call 16; refine (C6 _).mono ?_; rintro e w1 ⟨rfl, rfl⟩)
        go_upto_region 11 with (go_at_call 16; refine (C7 _).mono ?_; rintro e w1 ⟨rfl, rfl⟩)
        go_wp2_with fail
        go_ret
        exact ⟨rfl, H.below⟩
      · have hrs' : (r : Int) ≤ s := by omega
        have z1 : moveW a0 false r s / 2 ^ ((s : Int) - (r : Int) + 1).toNat = 0 := by
          rw [show ((s : Int) - (r : Int) + 1).toNat = s - r + 1 by omega]
          exact part_low (by omega)
        clear hrs
        by_cases h63 : (s : Int) < 63
        · go_enter Try.func8, Try.ntmps8
          go_upto_region 5 with (first | (go_at_call 9; refine (examples_c _).mono ?_; rintro e w1 ⟨rfl, hx⟩; replace H := H.grow hx; clear hx; dsimp only) | (go_at_call 14; refine (C1 _).mono ?_; rintro e w1 ⟨rfl, hx⟩; replace H := H.grow hx; clear hx; dsimp only))
          go_upto_region 6 with (go_at_call 14; refine (C2 _).mono ?_; rintro e w1 ⟨rfl, hx⟩; replace H := H.grow hx; clear hx; dsimp only)
          go_upto_region 7 with (go_at_call 14; refine (C3 _).mono ?_; rintro e w1 ⟨rfl, hx⟩; replace H := H.grow hx; clear hx; dsimp only)
          go_upto_region 8 with (go_at_call 14; refine (C4 _).mono ?_; rintro e w1 ⟨rfl, hx⟩; replace H := H.grow hx; clear hx; dsimp only)
          go_upto_region 9 with (go_at_call 16; refine (C5 _).mono ?_; rintro e w1 ⟨rfl, rfl⟩)
          go_upto_region 10 with (go_at_call 16; refine (C6 _).mono ?_; rintro e w1 ⟨rfl, rfl⟩)
          go_upto_region 11 with (go_at_call 16; refine (C7 _).mono ?_; rintro e w1 ⟨rfl, rfl⟩)
          go_wp2_with fail
          go_ret
          exact ⟨rfl, H.below⟩
        · go_enter Try.func8, Try.ntmps8
          go_upto_region 5 with (first | (go_at_call 9; refine (examples_c _).mono ?_; rintro e w1 ⟨rfl, hx⟩; replace H := H.grow hx; clear hx; dsimp only) | (go_at_call 14; refine (C1 _).mono ?_; rintro e w1 ⟨rfl, hx⟩; replace H := H.grow hx; clear hx; dsimp only))
          go_upto_region 6 with (go_at_call 14; refine (C2 _).mono ?_; rintro e w1 ⟨rfl, hx⟩; replace H := H.grow hx; clear hx; dsimp only)
          go_upto_region 7 with (go_at_call 14; refine (C3 _).mono ?_; rintro e w1 ⟨rfl, hx⟩; replace H := H.grow hx; clear hx; dsimp only)
          go_upto_region 8 with (go_at_call 14; refine (C4 _).mono ?_; rintro e w1 ⟨rfl, hx⟩; replace H := H.grow hx; clear hx; dsimp only)
          go_upto_region 9 with (go_at_call 16; refine (C5 _).mono ?_; rintro e w1 ⟨rfl, rfl⟩)
          go_upto_region 10 with (go_at_call 16; refine (C6 _).mono ?_; rintro e w1 ⟨rfl, rfl⟩)
          go_upto_region 11 with (go_at_call 16; refine (C7 _).mono ?_; rintro e w1 ⟨rfl, rfl⟩)
          go_wp2_with fail
          go_ret
          exact ⟨rfl, H.below⟩

set_option maxRecDepth 100000 in
theorem lifted (os : Os) (started : os.Started) (H : Type) (enc : TypeId × Value → H) :
    ReturnsInHanded {} Try.checked os 8 .any (Rows.aluTurnsSpec.pre6 enc Try.prog Try.f8 Rows.aluTurnsRow.domain false) (Rows.aluTurnsSpec.post enc Try.prog Try.f8 false true false false) := by
  refine returnsInHanded_of_change (C := Try.checked) own started (by kernel_rfl) Try.func8
    (ChangeSpec.witness6 (enc := enc) (C := Try.checked) false ⟨#[], #[.int .u64 0, .int .i64 0, .int .i64 0, .int .i64 0], []⟩ 8 (by kernel_rfl) (by kernel_rfl) (by kernel_rfl) (by kernel_rfl)) ?_
  intro W base args ds gs before hval0 hW hcnd _
  have hval : ∀ (j : Nat) t v, Try.f8.params[j]? = some t → args[j]? = some v → Value.okWide Try.prog W .any base t v := hval0
  have hW' := hW
  obtain ⟨p, q, hA0, hV, rfl, hfz, hnd⟩ := hW
  have hA : DataW.TrodAll enc Try.prog W 0 (fun _ => true) true Try.f8.params.toList args.toList ds p := hA0
  rw [Try.params8] at hA hval
  obtain ⟨v0, vs0, d0, ds0, p0, q0, hargs, rfl, rfl, h0, r0⟩ := trodAll_cons hA
  obtain ⟨v1, vs1, d1, ds1, p1, q1, rfl, rfl, rfl, h1, r1⟩ := trodAll_cons r0
  obtain ⟨v2, vs2, d2, ds2, p2, q2, rfl, rfl, rfl, h2, r2⟩ := trodAll_cons r1
  obtain ⟨v3, vs3, d3, ds3, p3, q3, rfl, rfl, rfl, h3, r3⟩ := trodAll_cons r2
  obtain ⟨rfl, rfl, rfl⟩ := trodAll_nil r3
  obtain rfl : args = #[v0, v1, v2, v3] := by cases args; simp_all
  obtain ⟨rfl, rfl⟩ := trodVars_none hV
  obtain ⟨a0, rfl, rfl, rfl, w0⟩ := open_int Try.underlying22 (hval 0 22 v0 rfl rfl) h0
  obtain ⟨a1, rfl, rfl, rfl, w1⟩ := open_int Try.underlying3 (hval 1 3 v1 rfl rfl) h1
  obtain ⟨a2, rfl, rfl, rfl, w2⟩ := open_int Try.underlying3 (hval 2 3 v2 rfl rfl) h2
  obtain ⟨a3, rfl, rfl, rfl, w3⟩ := open_int Try.underlying3 (hval 3 3 v3 rfl rfl) h3
  clear hA0 hval0
  simp only [List.append_nil] at hW'
  refine (walk a0 a1 a2 a3 w0 w1 w2 w3 W).mono fun e W' ⟨he, hb⟩ => ?_
  subst he
  exact ⟨_, rfl, post_flat hW' (fun _ _ _ => (trodAll_cons_mk (shut_bool Try.underlying4 _) trodAll_mk0)) (fun sp => (trodAll_cons_mk (shut_int Try.underlying22 w0) (trodAll_cons_mk (shut_int Try.underlying3 w1) (trodAll_cons_mk (shut_int Try.underlying3 w2) (trodAll_cons_mk (shut_int Try.underlying3 w3) trodAll_mk0))))) (fun _ => rfl) (fun may => hb.frame may) (ok_one (by kernel_rfl) rfl (okWide_bool_mk Try.underlying4 _))⟩

theorem over : Rows.aluTurnsRow.holds Try.pinned (OpenSpec.ofChange Rows.aluTurnsSpec) :=
  OpenClaim.holds_of_wide 8 Try.f8 rfl rfl rfl rfl rfl rfl rfl ⟨rfl, rfl, rfl, rfl, rfl⟩ rfl rfl rfl rfl rfl (by kernel_rfl) Try.func8 (by kernel_rfl)
    (of_decide_eq_true (by kernel_rfl)) (by unfold Func.isWrapper; first | (rw [if_pos (by decide +kernel)]; kernel_rfl) | (rw [if_neg (by decide +kernel)]; exact ⟨rfl, rfl⟩))
    (fun os started H enc _ => lifted os started H enc)

theorem proved : Rows.AluTurnsSaid :=
  over
end Go.Proofs.Ytakmnbahogogiaa.aluTurns

namespace Go.Proofs.Ytakmnbahogogiaa
theorem aluTurns_holds : Rows.AluTurnsSaid := aluTurns.proved
#print axioms aluTurns_holds
end Go.Proofs.Ytakmnbahogogiaa
