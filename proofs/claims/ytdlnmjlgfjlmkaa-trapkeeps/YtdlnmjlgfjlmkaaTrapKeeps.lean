/- For every state, class, ISS and address: an exception that is taken changes no register, no stack pointer, no flag, nor where vectors stand, and masks interrupts, at level 1: TrapKeeps returns true, whatever its arguments. -/
import Derived.Test.YtdlnmjlgfjlmkaaOpen
namespace Go.Proofs.Ytdlnmjlgfjlmkaa.trapKeeps
open Go.ChangeShapes Go.WideShapes Go.ChangeAt Go.RowKit
set_option linter.unusedVariables false

theorem may_pst (c : Cor) : mayB (pstV c) = true := by
  unfold pstV nzcvV
  split <;> cases c.n <;> cases c.z <;> cases c.c <;> cases c.v <;> cases c.mask <;> decide +kernel
theorem vec_0 (c : Cor) (h : c.el = 0) : IntKind.u64.wrap (vecV c - c.vbar) = 1024 := by
  rw [IntKind.wrap_u64, vecV, if_pos h]
  omega
theorem vec_1 (c : Cor) (h : c.el = 1) : IntKind.u64.wrap (vecV c - c.vbar) = 512 := by
  rw [IntKind.wrap_u64, vecV, if_neg (by omega)]
  omega
theorem ent_shape (c : Cor) (k iss far : Int) (h : entB c k iss = true) : ∃ p q r : Int, enterV c k iss far = { inV c (vecV c) with elr := p, esr := q, far := r } := by
  rw [enterV, h, cond_true, entC, svcV]
  refine ⟨_, _, _, rfl⟩
theorem ent_el (c : Cor) (k iss : Int) (h : entB c k iss = true) : c.el = 0 ∨ c.el = 1 := by
  simp only [entB, rightC, Bool.and_eq_true, Bool.or_eq_true, beq_iff_eq, decide_eq_true_eq] at h
  omega
set_option maxRecDepth 4000 in
set_option maxHeartbeats 4000000 in
theorem no (c : Cor) (k iss far : Int) (hb : entB c k iss = false) (w : World) :
    Calls Try.prog 6 #[c.val, vI k, vI iss, vU far] w fun e w' => e = .returned (.bool true) ∧ Below w.heap.size w w' := by
  have hE : enterV c k iss far = nilC := by rw [enterV, hb]; rfl
  go_enter Try.func6, Try.ntmps6
  go_upto_region 1 with fail
  have H := own_one c w
  generalize w.alloc (.cells c.cells 26) = w1 at H ⊢
  go_wp2_with (first | ((with_reducible refine wpList_all H rfl _ rfl rfl (by first | exact List.mem_cons_self | exact List.mem_cons_of_mem _ (List.mem_cons_self) | exact List.mem_cons_of_mem _ (List.mem_cons_of_mem _ (List.mem_cons_self)) | exact List.mem_cons_of_mem _ (List.mem_cons_of_mem _ (List.mem_cons_of_mem _ (List.mem_cons_self))) | exact List.mem_cons_of_mem _ (List.mem_cons_of_mem _ (List.mem_cons_of_mem _ (List.mem_cons_of_mem _ (List.mem_cons_self)))) | exact List.mem_cons_of_mem _ (List.mem_cons_of_mem _ (List.mem_cons_of_mem _ (List.mem_cons_of_mem _ (List.mem_cons_of_mem _ (List.mem_cons_self))))) | exact List.mem_cons_of_mem _ (List.mem_cons_of_mem _ (List.mem_cons_of_mem _ (List.mem_cons_of_mem _ (List.mem_cons_of_mem _ (List.mem_cons_of_mem _ (List.mem_cons_self))))))) ?_); simp only [Act.put, List.setIfInBounds_toArray, List.set_cons_succ, List.set_cons_zero]) | ((with_reducible refine wpList_new H rfl _ _ rfl _ rfl rfl ?_ ?_); (focus rfl); intro w2 H; simp only [Act.put]) | ((with_reducible refine wpList_build_nil rfl rfl ?_); simp only [Act.put, List.setIfInBounds_toArray, List.set_cons_succ, List.set_cons_zero]) | ((with_reducible refine wpList_eql_core rfl _ _ rfl _ _ rfl rfl true (eqC_refl _) ?_); simp only [Act.put, List.setIfInBounds_toArray, List.set_cons_succ, List.set_cons_zero]) | (go_at_call 7; refine (examples_c _).mono ?_; rintro e w1 ⟨rfl, hb⟩; replace H := H.grow hb; clear hb; dsimp only) | (go_at_call 8; refine (Enter_c _ _ _ _ _).mono ?_; rw [hE, hb]; rintro e w1 ⟨rfl, hb⟩; replace H := H.grow hb; clear hb; dsimp only))
  go_ret
  exact ⟨rfl, H.below⟩
set_option maxRecDepth 4000 in
set_option maxHeartbeats 8000000 in
theorem yes (c d : Cor) (k iss far p q r : Int) (hb : entB c k iss = true) (hE : enterV c k iss far = d) (hd : d = { inV c (vecV c) with elr := p, esr := q, far := r }) (S : Int) (hS : IntKind.u64.wrap (d.pc - d.vbar) = S) (hS2 : IntKind.u64.wrap (1024 - IntKind.u64.wrap (512 * IntKind.u64.wrap c.el)) = S) (hM : mayB d.spsr = true) (hU : Hid (U64 d.spsr)) (w : World) :
    Calls Try.prog 6 #[c.val, vI k, vI iss, vU far] w fun e w' => e = .returned (.bool true) ∧ Below w.heap.size w w' := by
  have f1 : d.n = c.n := by rw [hd]; rfl
  have f2 : d.z = c.z := by rw [hd]; rfl
  have f3 : d.c = c.c := by rw [hd]; rfl
  have f4 : d.v = c.v := by rw [hd]; rfl
  have f5 : d.vbar = c.vbar := by rw [hd]; rfl
  have f6 : d.tpidr = c.tpidr := by rw [hd]; rfl
  have f7 : d.id = c.id := by rw [hd]; rfl
  have f8 : d.el = 1 := by rw [hd]; rfl
  have f9 : d.mask = true := by rw [hd]; rfl
  have f10 : d.wait = 0 := by rw [hd]; rfl
  have f11 : Hid (xA d = xA c) := by show _ = _; rw [hd]; rfl
  have f12 : Hid (spA d = spA c) := by show _ = _; rw [hd]; rfl
  rw [f5] at hS
  have e0 : errB true = 0 := rfl
  clear hd
  go_enter Try.func6, Try.ntmps6
  go_upto_region 1 with fail
  have H := own_one c w
  generalize w.alloc (.cells c.cells 26) = w1 at H ⊢
  go_upto_region 5 with (first | ((with_reducible refine wpList_all H rfl _ rfl rfl (by first | exact List.mem_cons_self | exact List.mem_cons_of_mem _ (List.mem_cons_self) | exact List.mem_cons_of_mem _ (List.mem_cons_of_mem _ (List.mem_cons_self)) | exact List.mem_cons_of_mem _ (List.mem_cons_of_mem _ (List.mem_cons_of_mem _ (List.mem_cons_self))) | exact List.mem_cons_of_mem _ (List.mem_cons_of_mem _ (List.mem_cons_of_mem _ (List.mem_cons_of_mem _ (List.mem_cons_self)))) | exact List.mem_cons_of_mem _ (List.mem_cons_of_mem _ (List.mem_cons_of_mem _ (List.mem_cons_of_mem _ (List.mem_cons_of_mem _ (List.mem_cons_self))))) | exact List.mem_cons_of_mem _ (List.mem_cons_of_mem _ (List.mem_cons_of_mem _ (List.mem_cons_of_mem _ (List.mem_cons_of_mem _ (List.mem_cons_of_mem _ (List.mem_cons_self))))))) ?_); simp only [Act.put, List.setIfInBounds_toArray, List.set_cons_succ, List.set_cons_zero]) | ((with_reducible refine wpList_new H rfl _ _ rfl _ rfl rfl ?_ ?_); (focus rfl); intro w2 H; simp only [Act.put]) | (go_at_call 7; refine (examples_c _).mono ?_; rintro e w1 ⟨rfl, hb⟩; replace H := H.grow hb; clear hb; dsimp only) | (go_at_call 8; refine (Enter_c _ _ _ _ _).mono ?_; rw [hE, hb]; rintro e w1 ⟨rfl, hb⟩; replace H := H.grow hb; clear hb; dsimp only))
  simp only [List.append_eq, List.cons_append, List.nil_append]
  go_wp2_with (first | ((with_reducible refine wpList_all H rfl _ rfl rfl (by first | exact List.mem_cons_self | exact List.mem_cons_of_mem _ (List.mem_cons_self) | exact List.mem_cons_of_mem _ (List.mem_cons_of_mem _ (List.mem_cons_self)) | exact List.mem_cons_of_mem _ (List.mem_cons_of_mem _ (List.mem_cons_of_mem _ (List.mem_cons_self))) | exact List.mem_cons_of_mem _ (List.mem_cons_of_mem _ (List.mem_cons_of_mem _ (List.mem_cons_of_mem _ (List.mem_cons_self)))) | exact List.mem_cons_of_mem _ (List.mem_cons_of_mem _ (List.mem_cons_of_mem _ (List.mem_cons_of_mem _ (List.mem_cons_of_mem _ (List.mem_cons_self))))) | exact List.mem_cons_of_mem _ (List.mem_cons_of_mem _ (List.mem_cons_of_mem _ (List.mem_cons_of_mem _ (List.mem_cons_of_mem _ (List.mem_cons_of_mem _ (List.mem_cons_self))))))) ?_); simp only [Act.put, List.setIfInBounds_toArray, List.set_cons_succ, List.set_cons_zero]) | ((with_reducible refine wpList_new H rfl _ _ rfl _ rfl rfl ?_ ?_); (focus rfl); intro w2 H; simp only [Act.put]) | ((with_reducible refine wpList_get0 H rfl _ _ rfl _ rfl (by decide) _ (by first | exact Cor.a33 _ | exact Cor.a34 _ | exact Cor.a35 _ | exact Cor.a36 _ | exact Cor.a37 _ | exact Cor.a38 _ | exact Cor.a39 _ | exact Cor.a40 _ | exact Cor.a41 _ | exact Cor.a42 _ | exact Cor.a43 _ | exact Cor.a44 _ | exact Cor.a45 _ | exact Cor.a46 _ | exact Cor.a47 _ | exact Cor.a48 _) ?_); simp only [Act.put, List.setIfInBounds_toArray, List.set_cons_succ, List.set_cons_zero]) | ((with_reducible refine wpList_get1 H rfl _ _ rfl _ rfl (by decide) _ (by first | exact Cor.a33 _ | exact Cor.a34 _ | exact Cor.a35 _ | exact Cor.a36 _ | exact Cor.a37 _ | exact Cor.a38 _ | exact Cor.a39 _ | exact Cor.a40 _ | exact Cor.a41 _ | exact Cor.a42 _ | exact Cor.a43 _ | exact Cor.a44 _ | exact Cor.a45 _ | exact Cor.a46 _ | exact Cor.a47 _ | exact Cor.a48 _) ?_); simp only [Act.put, List.setIfInBounds_toArray, List.set_cons_succ, List.set_cons_zero]) | ((with_reducible refine wpList_loadX H rfl _ rfl rfl (by first | exact List.mem_cons_self | exact List.mem_cons_of_mem _ (List.mem_cons_self) | exact List.mem_cons_of_mem _ (List.mem_cons_of_mem _ (List.mem_cons_self)) | exact List.mem_cons_of_mem _ (List.mem_cons_of_mem _ (List.mem_cons_of_mem _ (List.mem_cons_self))) | exact List.mem_cons_of_mem _ (List.mem_cons_of_mem _ (List.mem_cons_of_mem _ (List.mem_cons_of_mem _ (List.mem_cons_self)))) | exact List.mem_cons_of_mem _ (List.mem_cons_of_mem _ (List.mem_cons_of_mem _ (List.mem_cons_of_mem _ (List.mem_cons_of_mem _ (List.mem_cons_self))))) | exact List.mem_cons_of_mem _ (List.mem_cons_of_mem _ (List.mem_cons_of_mem _ (List.mem_cons_of_mem _ (List.mem_cons_of_mem _ (List.mem_cons_of_mem _ (List.mem_cons_self))))))) ?_); simp only [Act.put, List.setIfInBounds_toArray, List.set_cons_succ, List.set_cons_zero]; try rw [f11.out]) | ((with_reducible refine wpList_loadSP H rfl _ rfl rfl (by first | exact List.mem_cons_self | exact List.mem_cons_of_mem _ (List.mem_cons_self) | exact List.mem_cons_of_mem _ (List.mem_cons_of_mem _ (List.mem_cons_self)) | exact List.mem_cons_of_mem _ (List.mem_cons_of_mem _ (List.mem_cons_of_mem _ (List.mem_cons_self))) | exact List.mem_cons_of_mem _ (List.mem_cons_of_mem _ (List.mem_cons_of_mem _ (List.mem_cons_of_mem _ (List.mem_cons_self)))) | exact List.mem_cons_of_mem _ (List.mem_cons_of_mem _ (List.mem_cons_of_mem _ (List.mem_cons_of_mem _ (List.mem_cons_of_mem _ (List.mem_cons_self))))) | exact List.mem_cons_of_mem _ (List.mem_cons_of_mem _ (List.mem_cons_of_mem _ (List.mem_cons_of_mem _ (List.mem_cons_of_mem _ (List.mem_cons_of_mem _ (List.mem_cons_self))))))) ?_); simp only [Act.put, List.setIfInBounds_toArray, List.set_cons_succ, List.set_cons_zero]; try rw [f12.out]) | ((with_reducible refine wpList_eqlX rfl _ _ rfl rfl rfl ?_); simp only [Act.put, List.setIfInBounds_toArray, List.set_cons_succ, List.set_cons_zero]) | ((with_reducible refine wpList_eqlSP rfl _ _ rfl rfl rfl ?_); simp only [Act.put, List.setIfInBounds_toArray, List.set_cons_succ, List.set_cons_zero]) | (go_at_call 7; refine (examples_c _).mono ?_; rintro e w1 ⟨rfl, hb⟩; replace H := H.grow hb; clear hb; dsimp only) | (go_at_call 8; refine (Enter_c _ _ _ _ _).mono ?_; rw [hE, hb]; rintro e w1 ⟨rfl, hb⟩; replace H := H.grow hb; clear hb; dsimp only) | (go_at_call 17; refine (May_c _ hU _).mono ?_; rw [hM]; rintro e w1 ⟨rfl, rfl⟩; dsimp only))
  go_ret
  exact ⟨rfl, H.below⟩
theorem walk (c : Cor) (wc : c.WF) (a1 : Int) (a2 : Int) (a3 : Int) (w1 : (Lit.int .i64 a1).wf = true) (w2 : (Lit.int .i64 a2).wf = true) (w3 : (Lit.int .u64 a3).wf = true) (w : World) :
    Calls Try.prog 6 #[c.val, .int .i64 a1, .int .i64 a2, .int .u64 a3] w fun e w' => e = .returned (.bool true) ∧ Below w.heap.size w w' := by
  cases hb : entB c a1 a2 with
  | false => exact no c a1 a2 a3 hb w
  | true =>
    obtain ⟨p, q, r, hd⟩ := ent_shape c a1 a2 a3 hb
    have hS : IntKind.u64.wrap ((enterV c a1 a2 a3).pc - (enterV c a1 a2 a3).vbar) = IntKind.u64.wrap (vecV c - c.vbar) := by rw [hd]; rfl
    refine yes c _ a1 a2 a3 p q r hb rfl hd _ hS ?_ (by rw [hd]; exact may_pst c) (by rw [hd]; exact pstV_u64 c) w
    rcases ent_el c a1 a2 hb with h | h
    · rw [vec_0 c h, h]; decide +kernel
    · rw [vec_1 c h, h]; decide +kernel

set_option maxRecDepth 100000 in
theorem lifted (os : Os) (started : os.Started) (H : Type) (enc : TypeId × Value → H) :
    ReturnsInHanded {} Try.checked os 6 .any (Rows.trapKeepsSpec.pre6 enc Try.prog Try.f6 Rows.trapKeepsRow.domain false) (Rows.trapKeepsSpec.post enc Try.prog Try.f6 false true false false) := by
  refine returnsInHanded_of_change (C := Try.checked) own started (by kernel_rfl) Try.func6
    (ChangeSpec.witness6 (enc := enc) (C := Try.checked) false ⟨#[], #[nilC.val, .int .i64 0, .int .i64 0, .int .u64 0], []⟩ 8 (by kernel_rfl) (by kernel_rfl) (by kernel_rfl) (by kernel_rfl)) ?_
  intro W base args ds gs before hval0 hW hcnd _
  have hval : ∀ (j : Nat) t v, Try.f6.params[j]? = some t → args[j]? = some v → Value.okWide Try.prog W .any base t v := hval0
  have hW' := hW
  obtain ⟨p, q, hA0, hV, rfl, hfz, hnd⟩ := hW
  have hA : DataW.TrodAll enc Try.prog W 0 (fun _ => true) true Try.f6.params.toList args.toList ds p := hA0
  rw [Try.params6] at hA hval
  obtain ⟨v0, vs0, d0, ds0, p0, q0, hargs, rfl, rfl, h0, r0⟩ := trodAll_cons hA
  obtain ⟨v1, vs1, d1, ds1, p1, q1, rfl, rfl, rfl, h1, r1⟩ := trodAll_cons r0
  obtain ⟨v2, vs2, d2, ds2, p2, q2, rfl, rfl, rfl, h2, r2⟩ := trodAll_cons r1
  obtain ⟨v3, vs3, d3, ds3, p3, q3, rfl, rfl, rfl, h3, r3⟩ := trodAll_cons r2
  obtain ⟨rfl, rfl, rfl⟩ := trodAll_nil r3
  obtain rfl : args = #[v0, v1, v2, v3] := by cases args; simp_all
  obtain ⟨rfl, rfl⟩ := trodVars_none hV
  obtain ⟨c, rfl, wc⟩ := open_core (hval 0 26 v0 rfl rfl) h0
  obtain rfl := (Trod_flat (w' := W) (b' := 0) (s' := fun _ => true) (h' := true) flat26 h0).1
  obtain ⟨a1, rfl, rfl, rfl, w1⟩ := open_int Try.underlying3 (hval 1 3 v1 rfl rfl) h1
  obtain ⟨a2, rfl, rfl, rfl, w2⟩ := open_int Try.underlying3 (hval 2 3 v2 rfl rfl) h2
  obtain ⟨a3, rfl, rfl, rfl, w3⟩ := open_int Try.underlying22 (hval 3 22 v3 rfl rfl) h3
  clear hA0 hval0
  simp only [List.append_nil] at hW'
  refine (walk c wc a1 a2 a3 w1 w2 w3 W).mono fun e W' ⟨he, hb⟩ => ?_
  subst he
  exact ⟨_, rfl, post_flat hW' (fun _ _ _ => (trodAll_cons_mk (shut_bool Try.underlying4 _) trodAll_mk0)) (fun sp => (trodAll_cons_mk (Trod_flat flat26 h0 |>.2) (trodAll_cons_mk (shut_int Try.underlying3 w1) (trodAll_cons_mk (shut_int Try.underlying3 w2) (trodAll_cons_mk (shut_int Try.underlying22 w3) trodAll_mk0))))) (fun _ => rfl) (fun may => hb.frame may) (ok_one (by kernel_rfl) rfl (okWide_bool_mk Try.underlying4 _))⟩

theorem over : Rows.trapKeepsRow.holds Try.pinned (OpenSpec.ofChange Rows.trapKeepsSpec) :=
  OpenClaim.holds_of_wide 6 Try.f6 rfl rfl rfl rfl rfl rfl rfl ⟨rfl, rfl, rfl, rfl, rfl⟩ rfl rfl rfl rfl rfl (by kernel_rfl) Try.func6 (by kernel_rfl)
    (of_decide_eq_true (by kernel_rfl)) (by unfold Func.isWrapper; first | (rw [if_pos (by decide +kernel)]; kernel_rfl) | (rw [if_neg (by decide +kernel)]; exact ⟨rfl, rfl⟩))
    (fun os started H enc _ => lifted os started H enc)

theorem proved : Rows.TrapKeepsSaid :=
  over
end Go.Proofs.Ytdlnmjlgfjlmkaa.trapKeeps

namespace Go.Proofs.Ytdlnmjlgfjlmkaa
theorem trapKeeps_holds : Rows.TrapKeepsSaid := trapKeeps.proved
#print axioms trapKeeps_holds
end Go.Proofs.Ytdlnmjlgfjlmkaa
