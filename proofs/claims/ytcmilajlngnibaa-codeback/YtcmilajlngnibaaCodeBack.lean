/- For every word and every instruction: Encode of what Decode answers is the word, Decode of what Encode answers the instruction: CodeBack returns true, whatever its arguments. -/
import Derived.Test.YtcmilajlngnibaaExs
import Derived.Test.YtcmilajlngnibaaRelG
namespace Go.Proofs.Ytcmilajlngnibaa.codeBack
open Go.ChangeShapes Go.WideShapes Go.ChangeAt Go.RowKit
set_option linter.unusedVariables false

theorem relG_load {o : Oper} {a : Act} {w : World} {i : Ins} (x : Operand) (ho : o.op = .load 25 x) (g : Nat) (hx : a.eval x = .pointer (some ⟨g, 0, none⟩)) (hg : w.heap[g]? = some (.cells i.cells 25)) :
    RelG.relUpon Try.prog RelG.Grows (fun v _ => v = i.val) w ((execOp a.eval o).run Try.prog w) := by
  unfold execOp
  simp only [ho, hx, Instr.loadAt, Instr.sureAddr, Sem.run_bind, Sem.run_pure, Result.andThen_ok, run_loadVar_row w g 25 25 i.cells (0, 0) _ hg Try.underlying25 rfl info25]
  exact ⟨Below.refl _ _, rfl⟩
theorem relG_eql {o : Oper} {a : Act} {w : World} (x y : Operand) (ho : o.op = .binOp .eql 25 x y 25) (i j : Ins) (hx : a.eval x = i.val) (hy : a.eval y = j.val) (b : Bool) (hb : eqI i j = b) :
    RelG.relUpon Try.prog RelG.Grows (fun v _ => v = .bool b) w ((execOp a.eval o).run Try.prog w) := by
  have he := insn_eq i j w
  rw [hb] at he
  unfold execOp
  simp only [ho, hx, hy, Sem.run_bind, run_eqGuard_agg w _ _ _ _ _ _ guard25, Result.andThen_ok, run_eql_struct, he]
  exact ⟨Below.refl _ _, rfl⟩
set_option maxRecDepth 4000 in
set_option maxHeartbeats 4000000 in
theorem walk (a0 : Int) (a1 : Ins) (w0 : (Lit.int .u32 a0).wf = true) (w1 : a1.WF) (w : World) :
    Calls Try.prog 5 #[.int .u32 a0, a1.val] w fun e w' => e = .returned (.bool true) ∧ Below w.heap.size w w' := by
  have b0 := bounds_u32 w0
  have hW : W32 a0 := ⟨by omega, by omega⟩
  have hi : Hid (∀ k : Fl, I64 (k.get a1)) := fun k => w1.in64 k
  have hj : Hid (∀ k : Fl, I64 (k.get (decV a0))) := fun k => dec_in hW k
  clear w0 w1
  have H := has_start a1 w
  rcases enc_dec hW with d0 | ⟨d0, d1⟩
  · have d2 : (decV a0).op = 0 := by rw [d0]; rfl
    have hE : eqI (decV a0) nilI = true := by rw [d0]; exact eqI_refl _
    clear d0
    go_enter Try.func5, Try.ntmps5
    go_upto_region 1 with fail
    generalize w.alloc (.cells a1.cells 25) = w1 at H ⊢
    go_upto_region 3 with (first | ((with_reducible refine wpList_store_new H rfl _ _ rfl _ rfl rfl ?_ ?_); (focus rfl); intro w2 H; try simp only [Act.put]) | (go_at_call 8; refine (examples_c _).mono ?_; rintro e w1 ⟨rfl, hb⟩; replace H := H.grow hb; clear hb; dsimp only) | (go_at_call 9; refine (decode_c _ hW _).mono ?_; rintro e w1 ⟨rfl, hb⟩; replace H := H.grow hb; clear hb; dsimp only))
    have c0 := ins_c0 (H.get (List.mem_cons_self))
    go_upto_region 9 with (first | ((with_reducible refine wpList_load_if rfl 25 _ rfl _ rfl 25 _ (0, 0) _ (H.get (by first | exact List.mem_cons_self | exact List.mem_cons_of_mem _ (List.mem_cons_self) | exact List.mem_cons_of_mem _ (List.mem_cons_of_mem _ (List.mem_cons_self)) | exact List.mem_cons_of_mem _ (List.mem_cons_of_mem _ (List.mem_cons_of_mem _ (List.mem_cons_self))) | exact List.mem_cons_of_mem _ (List.mem_cons_of_mem _ (List.mem_cons_of_mem _ (List.mem_cons_of_mem _ (List.mem_cons_self)))) | exact List.mem_cons_of_mem _ (List.mem_cons_of_mem _ (List.mem_cons_of_mem _ (List.mem_cons_of_mem _ (List.mem_cons_of_mem _ (List.mem_cons_self))))) | exact List.mem_cons_of_mem _ (List.mem_cons_of_mem _ (List.mem_cons_of_mem _ (List.mem_cons_of_mem _ (List.mem_cons_of_mem _ (List.mem_cons_of_mem _ (List.mem_cons_self)))))))) Try.underlying25 rfl (Ins.infoC _) ?_); (simp only [Act.put, List.setIfInBounds_toArray, List.set_cons_succ, List.set_cons_zero])) | ((with_reducible refine wpList_builtG rfl 25 _ rfl nilI.cells (by kernel_rfl) ?_); (simp only [Act.put, List.setIfInBounds_toArray, List.set_cons_succ, List.set_cons_zero])) | ((with_reducible refine wpList_neq_insn rfl _ _ rfl (decV a0) (nilI) ?_ ?_ true hE ?_); (focus rfl); (focus rfl); (simp only [Act.put, List.setIfInBounds_toArray, List.set_cons_succ, List.set_cons_zero])))
    clear c0
    go_upto_region 10 with (first | ((with_reducible refine wpList_load_if rfl 25 _ rfl _ rfl 25 _ (0, 0) _ (H.get (by first | exact List.mem_cons_self | exact List.mem_cons_of_mem _ (List.mem_cons_self) | exact List.mem_cons_of_mem _ (List.mem_cons_of_mem _ (List.mem_cons_self)) | exact List.mem_cons_of_mem _ (List.mem_cons_of_mem _ (List.mem_cons_of_mem _ (List.mem_cons_self))) | exact List.mem_cons_of_mem _ (List.mem_cons_of_mem _ (List.mem_cons_of_mem _ (List.mem_cons_of_mem _ (List.mem_cons_self)))) | exact List.mem_cons_of_mem _ (List.mem_cons_of_mem _ (List.mem_cons_of_mem _ (List.mem_cons_of_mem _ (List.mem_cons_of_mem _ (List.mem_cons_self))))) | exact List.mem_cons_of_mem _ (List.mem_cons_of_mem _ (List.mem_cons_of_mem _ (List.mem_cons_of_mem _ (List.mem_cons_of_mem _ (List.mem_cons_of_mem _ (List.mem_cons_self)))))))) Try.underlying25 rfl (Ins.infoC _) ?_); (simp only [Act.put, List.setIfInBounds_toArray, List.set_cons_succ, List.set_cons_zero])) | (go_at_call 11; refine (encode_c _ (by first | exact hi | exact hj) _).mono ?_; rintro e w1 ⟨rfl, hb⟩; replace H := H.grow hb; clear hb; dsimp only))
    generalize hLL : (_ :: _ : List (Nat × Ins)) = L at H
    have hL : (w.heap.size, a1) ∈ L := by rw [← hLL]; exact (by first | exact List.mem_cons_self | exact List.mem_cons_of_mem _ List.mem_cons_self | exact List.mem_cons_of_mem _ (List.mem_cons_of_mem _ List.mem_cons_self))
    clear hLL
    rcases dec_enc a1 with e1 | ⟨e1, e2⟩
    · have e3 : (encV a1).2 = 3 := by rw [e1]
      have e4 : (encV a1).1 = 0 := by rw [e1]
      clear e1
      go_wp2
      go_ret
      exact ⟨rfl, H.below⟩
    · go_upto_region 12 with fail
      refine RelG.wp_region_rel RelG.Grows (fun x => Has w L x) [.inl (.bool true), .inl (.bool true), .inl (.int .u32 (encV a1).1), .inl a1.val, .inl a1.val, .inl (.bool true), .inl (.bool true), .inl (.bool true)] (by kernel_rfl) (by kernel_rfl) RelG.grows_refl (fun _ _ h hb => h.grow hb) (H.grow ⟨rfl, rfl, rfl, Nat.le_refl _, fun _ _ => rfl⟩) (by simp [RelG.upK]) ?_
      refine ⟨fun w3 hC _ => RelG.uponG_yes rfl (by go_simp; first | exact RelG.grows_refl _ | exact ⟨RelG.grows_refl _, rfl⟩), ?_⟩
      simp only [Act.put, List.setIfInBounds_toArray, List.set_cons_succ, List.set_cons_zero]
      refine ⟨fun w3 hC _ => RelG.uponG_yes rfl (by go_simp; first | exact RelG.grows_refl _ | exact ⟨RelG.grows_refl _, rfl⟩), ?_⟩
      simp only [Act.put, List.setIfInBounds_toArray, List.set_cons_succ, List.set_cons_zero]
      refine ⟨fun w3 hC _ => RelG.uponG_yes rfl (by go_simp; first | exact RelG.grows_refl _ | exact ⟨RelG.grows_refl _, rfl⟩), ?_⟩
      simp only [Act.put, List.setIfInBounds_toArray, List.set_cons_succ, List.set_cons_zero]
      refine ⟨fun w3 hC _ => RelG.uponG_yes rfl ?_, ?_⟩
      · go_simp
        refine (decode_c _ e2.1 w3).mono ?_
        rw [e2.2]
        rintro e w4 ⟨rfl, hb⟩
        exact ⟨rfl, hb⟩
      simp only [Act.put, List.setIfInBounds_toArray, List.set_cons_succ, List.set_cons_zero]
      refine ⟨fun w3 hC _ => RelG.uponG_yes rfl (relG_load _ rfl w.heap.size rfl (hC.get hL)), ?_⟩
      simp only [Act.put, List.setIfInBounds_toArray, List.set_cons_succ, List.set_cons_zero]
      refine ⟨fun w3 hC _ => RelG.uponG_yes rfl (relG_eql _ _ rfl a1 a1 rfl rfl true (eqI_refl _)), ?_⟩
      simp only [Act.put, List.setIfInBounds_toArray, List.set_cons_succ, List.set_cons_zero]
      refine ⟨fun w3 hC _ => RelG.uponG_yes rfl (by go_simp; first | exact RelG.grows_refl _ | exact ⟨RelG.grows_refl _, rfl⟩), ?_⟩
      simp only [Act.put, List.setIfInBounds_toArray, List.set_cons_succ, List.set_cons_zero]
      refine ⟨fun w3 hC _ => RelG.uponG_yes rfl (by go_simp; first | exact RelG.grows_refl _ | exact ⟨RelG.grows_refl _, rfl⟩), ?_⟩
      simp only [Act.put, List.setIfInBounds_toArray, List.set_cons_succ, List.set_cons_zero]
      intro w3 hC _
      go_wp2
      go_ret
      exact ⟨rfl, hC.below⟩
  · have d2 : ((decV a0).op != 0) = true := bne_iff_ne.2 d0
    have d3 : (encV (decV a0)).1 = a0 := by rw [d1]
    have d4 : (encV (decV a0)).2 = 0 := by rw [d1]
    clear d0 d1
    go_enter Try.func5, Try.ntmps5
    go_upto_region 1 with fail
    generalize w.alloc (.cells a1.cells 25) = w1 at H ⊢
    go_upto_region 3 with (first | ((with_reducible refine wpList_store_new H rfl _ _ rfl _ rfl rfl ?_ ?_); (focus rfl); intro w2 H; try simp only [Act.put]) | (go_at_call 8; refine (examples_c _).mono ?_; rintro e w1 ⟨rfl, hb⟩; replace H := H.grow hb; clear hb; dsimp only) | (go_at_call 9; refine (decode_c _ hW _).mono ?_; rintro e w1 ⟨rfl, hb⟩; replace H := H.grow hb; clear hb; dsimp only))
    have c0 := ins_c0 (H.get (List.mem_cons_self))
    go_upto_region 9 with (first | ((with_reducible refine wpList_load_if rfl 25 _ rfl _ rfl 25 _ (0, 0) _ (H.get (by first | exact List.mem_cons_self | exact List.mem_cons_of_mem _ (List.mem_cons_self) | exact List.mem_cons_of_mem _ (List.mem_cons_of_mem _ (List.mem_cons_self)) | exact List.mem_cons_of_mem _ (List.mem_cons_of_mem _ (List.mem_cons_of_mem _ (List.mem_cons_self))) | exact List.mem_cons_of_mem _ (List.mem_cons_of_mem _ (List.mem_cons_of_mem _ (List.mem_cons_of_mem _ (List.mem_cons_self)))) | exact List.mem_cons_of_mem _ (List.mem_cons_of_mem _ (List.mem_cons_of_mem _ (List.mem_cons_of_mem _ (List.mem_cons_of_mem _ (List.mem_cons_self))))) | exact List.mem_cons_of_mem _ (List.mem_cons_of_mem _ (List.mem_cons_of_mem _ (List.mem_cons_of_mem _ (List.mem_cons_of_mem _ (List.mem_cons_of_mem _ (List.mem_cons_self)))))))) Try.underlying25 rfl (Ins.infoC _) ?_); (simp only [Act.put, List.setIfInBounds_toArray, List.set_cons_succ, List.set_cons_zero])) | (go_at_call 11; refine (encode_c _ (by first | exact hi | exact hj) _).mono ?_; rintro e w1 ⟨rfl, hb⟩; replace H := H.grow hb; clear hb; dsimp only))
    clear c0
    go_upto_region 10 with (first | ((with_reducible refine wpList_load_if rfl 25 _ rfl _ rfl 25 _ (0, 0) _ (H.get (by first | exact List.mem_cons_self | exact List.mem_cons_of_mem _ (List.mem_cons_self) | exact List.mem_cons_of_mem _ (List.mem_cons_of_mem _ (List.mem_cons_self)) | exact List.mem_cons_of_mem _ (List.mem_cons_of_mem _ (List.mem_cons_of_mem _ (List.mem_cons_self))) | exact List.mem_cons_of_mem _ (List.mem_cons_of_mem _ (List.mem_cons_of_mem _ (List.mem_cons_of_mem _ (List.mem_cons_self)))) | exact List.mem_cons_of_mem _ (List.mem_cons_of_mem _ (List.mem_cons_of_mem _ (List.mem_cons_of_mem _ (List.mem_cons_of_mem _ (List.mem_cons_self))))) | exact List.mem_cons_of_mem _ (List.mem_cons_of_mem _ (List.mem_cons_of_mem _ (List.mem_cons_of_mem _ (List.mem_cons_of_mem _ (List.mem_cons_of_mem _ (List.mem_cons_self)))))))) Try.underlying25 rfl (Ins.infoC _) ?_); (simp only [Act.put, List.setIfInBounds_toArray, List.set_cons_succ, List.set_cons_zero])) | (go_at_call 11; refine (encode_c _ (by first | exact hi | exact hj) _).mono ?_; rintro e w1 ⟨rfl, hb⟩; replace H := H.grow hb; clear hb; dsimp only))
    generalize hLL : (_ :: _ : List (Nat × Ins)) = L at H
    have hL : (w.heap.size, a1) ∈ L := by rw [← hLL]; exact (by first | exact List.mem_cons_self | exact List.mem_cons_of_mem _ List.mem_cons_self | exact List.mem_cons_of_mem _ (List.mem_cons_of_mem _ List.mem_cons_self))
    clear hLL
    rcases dec_enc a1 with e1 | ⟨e1, e2⟩
    · have e3 : (encV a1).2 = 3 := by rw [e1]
      have e4 : (encV a1).1 = 0 := by rw [e1]
      clear e1
      go_wp2
      go_ret
      exact ⟨rfl, H.below⟩
    · go_upto_region 12 with fail
      refine RelG.wp_region_rel RelG.Grows (fun x => Has w L x) [.inl (.bool true), .inl (.bool true), .inl (.int .u32 (encV a1).1), .inl a1.val, .inl a1.val, .inl (.bool true), .inl (.bool true), .inl (.bool true)] (by kernel_rfl) (by kernel_rfl) RelG.grows_refl (fun _ _ h hb => h.grow hb) (H.grow ⟨rfl, rfl, rfl, Nat.le_refl _, fun _ _ => rfl⟩) (by simp [RelG.upK]) ?_
      refine ⟨fun w3 hC _ => RelG.uponG_yes rfl (by go_simp; first | exact RelG.grows_refl _ | exact ⟨RelG.grows_refl _, rfl⟩), ?_⟩
      simp only [Act.put, List.setIfInBounds_toArray, List.set_cons_succ, List.set_cons_zero]
      refine ⟨fun w3 hC _ => RelG.uponG_yes rfl (by go_simp; first | exact RelG.grows_refl _ | exact ⟨RelG.grows_refl _, rfl⟩), ?_⟩
      simp only [Act.put, List.setIfInBounds_toArray, List.set_cons_succ, List.set_cons_zero]
      refine ⟨fun w3 hC _ => RelG.uponG_yes rfl (by go_simp; first | exact RelG.grows_refl _ | exact ⟨RelG.grows_refl _, rfl⟩), ?_⟩
      simp only [Act.put, List.setIfInBounds_toArray, List.set_cons_succ, List.set_cons_zero]
      refine ⟨fun w3 hC _ => RelG.uponG_yes rfl ?_, ?_⟩
      · go_simp
        refine (decode_c _ e2.1 w3).mono ?_
        rw [e2.2]
        rintro e w4 ⟨rfl, hb⟩
        exact ⟨rfl, hb⟩
      simp only [Act.put, List.setIfInBounds_toArray, List.set_cons_succ, List.set_cons_zero]
      refine ⟨fun w3 hC _ => RelG.uponG_yes rfl (relG_load _ rfl w.heap.size rfl (hC.get hL)), ?_⟩
      simp only [Act.put, List.setIfInBounds_toArray, List.set_cons_succ, List.set_cons_zero]
      refine ⟨fun w3 hC _ => RelG.uponG_yes rfl (relG_eql _ _ rfl a1 a1 rfl rfl true (eqI_refl _)), ?_⟩
      simp only [Act.put, List.setIfInBounds_toArray, List.set_cons_succ, List.set_cons_zero]
      refine ⟨fun w3 hC _ => RelG.uponG_yes rfl (by go_simp; first | exact RelG.grows_refl _ | exact ⟨RelG.grows_refl _, rfl⟩), ?_⟩
      simp only [Act.put, List.setIfInBounds_toArray, List.set_cons_succ, List.set_cons_zero]
      refine ⟨fun w3 hC _ => RelG.uponG_yes rfl (by go_simp; first | exact RelG.grows_refl _ | exact ⟨RelG.grows_refl _, rfl⟩), ?_⟩
      simp only [Act.put, List.setIfInBounds_toArray, List.set_cons_succ, List.set_cons_zero]
      intro w3 hC _
      go_wp2
      go_ret
      exact ⟨rfl, hC.below⟩

set_option maxRecDepth 100000 in
theorem lifted (os : Os) (started : os.Started) (H : Type) (enc : TypeId × Value → H) :
    ReturnsInHanded {} Try.checked os 5 .any (Rows.codeBackSpec.pre6 enc Try.prog Try.f5 Rows.codeBackRow.domain false) (Rows.codeBackSpec.post enc Try.prog Try.f5 false true false false) := by
  refine returnsInHanded_of_change (C := Try.checked) own started (by kernel_rfl) Try.func5
    (ChangeSpec.witness6 (enc := enc) (C := Try.checked) false ⟨#[], #[.int .u32 0, nilI.val], []⟩ 8 (by kernel_rfl) (by kernel_rfl) (by kernel_rfl) (by kernel_rfl)) ?_
  intro W base args ds gs before hval0 hW hcnd _
  have hval : ∀ (j : Nat) t v, Try.f5.params[j]? = some t → args[j]? = some v → Value.okWide Try.prog W .any base t v := hval0
  have hW' := hW
  obtain ⟨p, q, hA0, hV, rfl, hfz, hnd⟩ := hW
  have hA : DataW.TrodAll enc Try.prog W 0 (fun _ => true) true Try.f5.params.toList args.toList ds p := hA0
  rw [Try.params5] at hA hval
  obtain ⟨v0, vs0, d0, ds0, p0, q0, hargs, rfl, rfl, h0, r0⟩ := trodAll_cons hA
  obtain ⟨v1, vs1, d1, ds1, p1, q1, rfl, rfl, rfl, h1, r1⟩ := trodAll_cons r0
  obtain ⟨rfl, rfl, rfl⟩ := trodAll_nil r1
  obtain rfl : args = #[v0, v1] := by cases args; simp_all
  obtain ⟨rfl, rfl⟩ := trodVars_none hV
  obtain ⟨a0, rfl, rfl, rfl, w0⟩ := open_int Try.underlying22 (hval 0 22 v0 rfl rfl) h0
  obtain ⟨a1, w1, rfl, rfl, rfl⟩ := open_insn (hval 1 25 v1 rfl rfl) h1
  clear hA0 hval0
  simp only [List.append_nil] at hW'
  refine (walk a0 a1 w0 w1 W).mono fun e W' ⟨he, hb⟩ => ?_
  subst he
  exact ⟨_, rfl, post_flat hW' (fun _ _ _ => (trodAll_cons_mk (shut_bool Try.underlying4 _) trodAll_mk0)) (fun sp => (trodAll_cons_mk (shut_int Try.underlying22 w0) (trodAll_cons_mk (shut_insn a1 w1) trodAll_mk0))) (fun _ => rfl) (fun may => hb.frame may) (ok_one (by kernel_rfl) rfl (okWide_bool_mk Try.underlying4 _))⟩

theorem over : Rows.codeBackRow.holds Try.pinned (OpenSpec.ofChange Rows.codeBackSpec) :=
  OpenClaim.holds_of_wide 5 Try.f5 rfl rfl rfl rfl rfl rfl rfl ⟨rfl, rfl, rfl, rfl, rfl⟩ rfl rfl rfl rfl rfl (by kernel_rfl) Try.func5 (by kernel_rfl)
    (of_decide_eq_true (by kernel_rfl)) (by unfold Func.isWrapper; first | (rw [if_pos (by decide +kernel)]; kernel_rfl) | (rw [if_neg (by decide +kernel)]; exact ⟨rfl, rfl⟩))
    (fun os started H enc _ => lifted os started H enc)

theorem proved : Rows.CodeBackSaid :=
  over
end Go.Proofs.Ytcmilajlngnibaa.codeBack

namespace Go.Proofs.Ytcmilajlngnibaa
theorem codeBack_holds : Rows.CodeBackSaid := codeBack.proved
#print axioms codeBack_holds
end Go.Proofs.Ytcmilajlngnibaa
