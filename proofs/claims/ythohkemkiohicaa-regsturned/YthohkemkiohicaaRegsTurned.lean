/- For every state and every number of a condition: of two conditions side by side just one holds, but of the last two, which both hold: RegsTurned returns true, whatever its arguments. -/
import Derived.Test.YthohkemkiohicaaOpen
namespace Go.Proofs.Ythohkemkiohicaa.regsTurned
open Go.ChangeShapes Go.WideShapes Go.ChangeAt Go.RowKit
set_option linter.unusedVariables false

theorem xor_one (X : Nat) : (X ^^^ 1) / 2 = X / 2 := by
  have h : (X ^^^ 1) >>> 1 = X >>> 1 := by
    rw [Nat.shiftRight_xor_distrib]
    simp
  simpa [Nat.shiftRight_eq_div_pow] using h
theorem xor_two (X : Nat) : (X ^^^ 1) % 2 = (X + 1) % 2 := by
  have h := Nat.testBit_xor X 1 0
  simp only [Nat.testBit_zero, Nat.reduceMod, decide_true, Bool.xor_true] at h
  have : decide ((X ^^^ 1) % 2 = 1) = !decide (X % 2 = 1) := h
  by_cases h1 : X % 2 = 1 <;> by_cases h2 : (X ^^^ 1) % 2 = 1
  · rw [decide_eq_true h1, decide_eq_true h2] at this; cases this
  · omega
  · omega
  · rw [decide_eq_false h1, decide_eq_false h2] at this; cases this
theorem xor_int {a : Int} (h : (Lit.int .i64 a).wf = true) : bits .xor .i64 a 1 = if a % 2 = 0 then a + 1 else a - 1 := by
  have hb := bounds_i64 h
  have e : (BitVec.ofInt 64 a).toNat = (a % 18446744073709551616).toNat := by rw [BitVec.toNat_ofInt]; rfl
  show IntKind.i64.wrap ((BitVec.ofInt 64 a ^^^ BitVec.ofInt 64 1).toNat : Int) = _
  rw [BitVec.toNat_xor, e, show (BitVec.ofInt 64 1).toNat = 1 by decide]
  have h1 := xor_one (a % 18446744073709551616).toNat
  have h2 := xor_two (a % 18446744073709551616).toNat
  generalize (a % 18446744073709551616).toNat ^^^ 1 = Y at h1 h2
  rw [IntKind.wrap_i64]
  split <;> omega
theorem out {a : Int} (h : (Lit.int .i64 a).wf = true) (hc : condB a = false) : condB (bits .xor .i64 a 1) = false := by
  have hb := bounds_i64 h
  rw [xor_int h]
  simp only [condB, Bool.and_eq_false_iff, decide_eq_false_iff_not] at hc ⊢
  split <;> omega
theorem small {c : Cor} {a : Int} (h : (Lit.int .i64 a).wf = true) (h0 : 0 ≤ a) (h1 : a < 14) : condB (bits .xor .i64 a 1) = true ∧ holdsV c (bits .xor .i64 a 1) = !(holdsV c a) := by
  rw [xor_int h]
  have : a = 0 ∨ a = 1 ∨ a = 2 ∨ a = 3 ∨ a = 4 ∨ a = 5 ∨ a = 6 ∨ a = 7 ∨ a = 8 ∨ a = 9 ∨ a = 10 ∨ a = 11 ∨ a = 12 ∨ a = 13 := by omega
  rcases this with rfl | rfl | rfl | rfl | rfl | rfl | rfl | rfl | rfl | rfl | rfl | rfl | rfl | rfl <;> refine ⟨rfl, ?_⟩ <;> simp [holdsV]
theorem great {c : Cor} {a : Int} (h : (Lit.int .i64 a).wf = true) (h0 : 14 ≤ a) (h1 : a ≤ 15) : holdsV c a = true ∧ holdsV c (bits .xor .i64 a 1) = true := by
  rw [xor_int h]
  have : a = 14 ∨ a = 15 := by omega
  rcases this with rfl | rfl <;> exact ⟨rfl, rfl⟩
set_option maxRecDepth 4000 in
set_option maxHeartbeats 4000000 in
theorem walk (c : Cor) (wc : c.WF) (a1 : Int) (w1 : (Lit.int .i64 a1).wf = true) (w : World) :
    Calls Try.prog 8 #[c.val, .int .i64 a1] w fun e w' => e = .returned (.bool true) ∧ Below w.heap.size w w' := by
  cases hb : condB a1 with
  | false =>
    have e1 : condE a1 = 1 := by simp [condE, hb]
    have e2 : condE (bits .xor .i64 a1 1) = 1 := by simp [condE, out w1 hb]
    have e3 : holdsV c a1 = false := by
      simp only [condB, Bool.and_eq_false_iff, decide_eq_false_iff_not] at hb
      simp [holdsV, show (a1 == 0) = false by simp; omega, show (a1 == 1) = false by simp; omega, show (a1 == 2) = false by simp; omega, show (a1 == 3) = false by simp; omega, show (a1 == 4) = false by simp; omega, show (a1 == 5) = false by simp; omega, show (a1 == 6) = false by simp; omega, show (a1 == 7) = false by simp; omega, show (a1 == 8) = false by simp; omega, show (a1 == 9) = false by simp; omega, show (a1 == 10) = false by simp; omega, show (a1 == 11) = false by simp; omega, show (a1 == 12) = false by simp; omega, show (a1 == 13) = false by simp; omega, show (a1 == 14) = false by simp; omega, show (a1 == 15) = false by simp; omega]
    clear hb w1
    go_enter Try.func8, Try.ntmps8
    go_upto_region 1 with fail
    have H := has_start c w
    generalize w.alloc (.cells c.cells 26) = w1 at H ⊢
    go_wp2_with (first | (with_reducible refine wpList_load_if rfl 26 _ rfl _ rfl 26 _ (0, 0) _ (H.get (by first | exact List.mem_cons_self | exact List.mem_cons_of_mem _ (List.mem_cons_self) | exact List.mem_cons_of_mem _ (List.mem_cons_of_mem _ (List.mem_cons_self)) | exact List.mem_cons_of_mem _ (List.mem_cons_of_mem _ (List.mem_cons_of_mem _ (List.mem_cons_self))) | exact List.mem_cons_of_mem _ (List.mem_cons_of_mem _ (List.mem_cons_of_mem _ (List.mem_cons_of_mem _ (List.mem_cons_self)))) | exact List.mem_cons_of_mem _ (List.mem_cons_of_mem _ (List.mem_cons_of_mem _ (List.mem_cons_of_mem _ (List.mem_cons_of_mem _ (List.mem_cons_self))))) | exact List.mem_cons_of_mem _ (List.mem_cons_of_mem _ (List.mem_cons_of_mem _ (List.mem_cons_of_mem _ (List.mem_cons_of_mem _ (List.mem_cons_of_mem _ (List.mem_cons_self)))))) | exact List.mem_cons_of_mem _ (List.mem_cons_of_mem _ (List.mem_cons_of_mem _ (List.mem_cons_of_mem _ (List.mem_cons_of_mem _ (List.mem_cons_of_mem _ (List.mem_cons_of_mem _ (List.mem_cons_self))))))))) Try.underlying26 rfl (Cor.info _) ?_; simp only [Act.put, List.setIfInBounds_toArray, List.set_cons_succ, List.set_cons_zero]) | (go_at_call 9; refine (examples_c _).mono ?_; rintro e w1 ⟨rfl, hb⟩; replace H := H.grow hb; clear hb; dsimp only) | (go_at_call 19; refine (Holds_c _ _ _).mono ?_; rintro e w1 ⟨rfl, hb⟩; replace H := H.grow hb; clear hb; dsimp only))
    go_ret
    exact ⟨rfl, H.below⟩
  | true =>
    have e1 : condE a1 = 0 := by simp [condE, hb]
    simp only [condB, Bool.and_eq_true, decide_eq_true_eq] at hb
    obtain ⟨h0, h15⟩ := hb
    by_cases h14 : 14 ≤ a1
    · obtain ⟨e2, e3⟩ := great (c := c) w1 h14 h15
      clear w1
      go_enter Try.func8, Try.ntmps8
      go_upto_region 1 with fail
      have H := has_start c w
      generalize w.alloc (.cells c.cells 26) = w1 at H ⊢
      go_wp2_with (first | (with_reducible refine wpList_load_if rfl 26 _ rfl _ rfl 26 _ (0, 0) _ (H.get (by first | exact List.mem_cons_self | exact List.mem_cons_of_mem _ (List.mem_cons_self) | exact List.mem_cons_of_mem _ (List.mem_cons_of_mem _ (List.mem_cons_self)) | exact List.mem_cons_of_mem _ (List.mem_cons_of_mem _ (List.mem_cons_of_mem _ (List.mem_cons_self))) | exact List.mem_cons_of_mem _ (List.mem_cons_of_mem _ (List.mem_cons_of_mem _ (List.mem_cons_of_mem _ (List.mem_cons_self)))) | exact List.mem_cons_of_mem _ (List.mem_cons_of_mem _ (List.mem_cons_of_mem _ (List.mem_cons_of_mem _ (List.mem_cons_of_mem _ (List.mem_cons_self))))) | exact List.mem_cons_of_mem _ (List.mem_cons_of_mem _ (List.mem_cons_of_mem _ (List.mem_cons_of_mem _ (List.mem_cons_of_mem _ (List.mem_cons_of_mem _ (List.mem_cons_self)))))) | exact List.mem_cons_of_mem _ (List.mem_cons_of_mem _ (List.mem_cons_of_mem _ (List.mem_cons_of_mem _ (List.mem_cons_of_mem _ (List.mem_cons_of_mem _ (List.mem_cons_of_mem _ (List.mem_cons_self))))))))) Try.underlying26 rfl (Cor.info _) ?_; simp only [Act.put, List.setIfInBounds_toArray, List.set_cons_succ, List.set_cons_zero]) | (go_at_call 9; refine (examples_c _).mono ?_; rintro e w1 ⟨rfl, hb⟩; replace H := H.grow hb; clear hb; dsimp only) | (go_at_call 19; refine (Holds_c _ _ _).mono ?_; rintro e w1 ⟨rfl, hb⟩; replace H := H.grow hb; clear hb; dsimp only))
      go_ret
      exact ⟨rfl, H.below⟩
    · obtain ⟨e2, e3⟩ := small (c := c) w1 h0 (by omega)
      have e4 : condE (bits .xor .i64 a1 1) = 0 := by simp [condE, e2]
      have h13 : a1 < 14 := by omega
      clear w1 e2 h14 h15
      go_enter Try.func8, Try.ntmps8
      go_upto_region 1 with fail
      have H := has_start c w
      generalize w.alloc (.cells c.cells 26) = w1 at H ⊢
      go_wp2_with (first | (with_reducible refine wpList_load_if rfl 26 _ rfl _ rfl 26 _ (0, 0) _ (H.get (by first | exact List.mem_cons_self | exact List.mem_cons_of_mem _ (List.mem_cons_self) | exact List.mem_cons_of_mem _ (List.mem_cons_of_mem _ (List.mem_cons_self)) | exact List.mem_cons_of_mem _ (List.mem_cons_of_mem _ (List.mem_cons_of_mem _ (List.mem_cons_self))) | exact List.mem_cons_of_mem _ (List.mem_cons_of_mem _ (List.mem_cons_of_mem _ (List.mem_cons_of_mem _ (List.mem_cons_self)))) | exact List.mem_cons_of_mem _ (List.mem_cons_of_mem _ (List.mem_cons_of_mem _ (List.mem_cons_of_mem _ (List.mem_cons_of_mem _ (List.mem_cons_self))))) | exact List.mem_cons_of_mem _ (List.mem_cons_of_mem _ (List.mem_cons_of_mem _ (List.mem_cons_of_mem _ (List.mem_cons_of_mem _ (List.mem_cons_of_mem _ (List.mem_cons_self)))))) | exact List.mem_cons_of_mem _ (List.mem_cons_of_mem _ (List.mem_cons_of_mem _ (List.mem_cons_of_mem _ (List.mem_cons_of_mem _ (List.mem_cons_of_mem _ (List.mem_cons_of_mem _ (List.mem_cons_self))))))))) Try.underlying26 rfl (Cor.info _) ?_; simp only [Act.put, List.setIfInBounds_toArray, List.set_cons_succ, List.set_cons_zero]) | (go_at_call 9; refine (examples_c _).mono ?_; rintro e w1 ⟨rfl, hb⟩; replace H := H.grow hb; clear hb; dsimp only) | (go_at_call 19; refine (Holds_c _ _ _).mono ?_; rintro e w1 ⟨rfl, hb⟩; replace H := H.grow hb; clear hb; dsimp only))
      all_goals (go_ret; refine ⟨ret_bool ?_, H.below⟩; first | rfl | (cases holdsV c a1 <;> rfl) | simp_all)

set_option maxRecDepth 100000 in
theorem lifted (os : Os) (started : os.Started) (H : Type) (enc : TypeId × Value → H) :
    ReturnsInHanded {} Try.checked os 8 .any (Rows.regsTurnedSpec.pre6 enc Try.prog Try.f8 Rows.regsTurnedRow.domain false) (Rows.regsTurnedSpec.post enc Try.prog Try.f8 false true false false) := by
  refine returnsInHanded_of_change (C := Try.checked) own started (by kernel_rfl) Try.func8
    (ChangeSpec.witness6 (enc := enc) (C := Try.checked) false ⟨#[], #[nilC.val, .int .i64 0], []⟩ 8 (by kernel_rfl) (by kernel_rfl) (by kernel_rfl) (by kernel_rfl)) ?_
  intro W base args ds gs before hval0 hW hcnd _
  have hval : ∀ (j : Nat) t v, Try.f8.params[j]? = some t → args[j]? = some v → Value.okWide Try.prog W .any base t v := hval0
  have hW' := hW
  obtain ⟨p, q, hA0, hV, rfl, hfz, hnd⟩ := hW
  have hA : DataW.TrodAll enc Try.prog W 0 (fun _ => true) true Try.f8.params.toList args.toList ds p := hA0
  rw [Try.params8] at hA hval
  obtain ⟨v0, vs0, d0, ds0, p0, q0, hargs, rfl, rfl, h0, r0⟩ := trodAll_cons hA
  obtain ⟨v1, vs1, d1, ds1, p1, q1, rfl, rfl, rfl, h1, r1⟩ := trodAll_cons r0
  obtain ⟨rfl, rfl, rfl⟩ := trodAll_nil r1
  obtain rfl : args = #[v0, v1] := by cases args; simp_all
  obtain ⟨rfl, rfl⟩ := trodVars_none hV
  obtain ⟨c, rfl, wc⟩ := open_core (hval 0 26 v0 rfl rfl) h0
  obtain rfl := (Trod_flat (w' := W) (b' := 0) (s' := fun _ => true) (h' := true) flat26 h0).1
  obtain ⟨a1, rfl, rfl, rfl, w1⟩ := open_int Try.underlying3 (hval 1 3 v1 rfl rfl) h1
  clear hA0 hval0
  simp only [List.append_nil] at hW'
  refine (walk c wc a1 w1 W).mono fun e W' ⟨he, hb⟩ => ?_
  subst he
  exact ⟨_, rfl, post_flat hW' (fun _ _ _ => (trodAll_cons_mk (shut_bool Try.underlying4 _) trodAll_mk0)) (fun sp => (trodAll_cons_mk (Trod_flat flat26 h0 |>.2) (trodAll_cons_mk (shut_int Try.underlying3 w1) trodAll_mk0))) (fun _ => rfl) (fun may => hb.frame may) (ok_one (by kernel_rfl) rfl (okWide_bool_mk Try.underlying4 _))⟩

theorem over : Rows.regsTurnedRow.holds Try.pinned (OpenSpec.ofChange Rows.regsTurnedSpec) :=
  OpenClaim.holds_of_wide 8 Try.f8 rfl rfl rfl rfl rfl rfl rfl ⟨rfl, rfl, rfl, rfl, rfl⟩ rfl rfl rfl rfl rfl (by kernel_rfl) Try.func8 (by kernel_rfl)
    (of_decide_eq_true (by kernel_rfl)) (by unfold Func.isWrapper; first | (rw [if_pos (by decide +kernel)]; kernel_rfl) | (rw [if_neg (by decide +kernel)]; exact ⟨rfl, rfl⟩))
    (fun os started H enc _ => lifted os started H enc)

theorem proved : Rows.RegsTurnedSaid :=
  over
end Go.Proofs.Ythohkemkiohicaa.regsTurned

namespace Go.Proofs.Ythohkemkiohicaa
theorem regsTurned_holds : Rows.RegsTurnedSaid := regsTurned.proved
#print axioms regsTurned_holds
end Go.Proofs.Ythohkemkiohicaa
