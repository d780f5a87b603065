/- For every state of a core and every word: SemBegins returns true: what Begin and Fetch want is what the document's own answer says, also where the word is no instruction, or may not be at this level, and where the state is not right. -/
import Derived.Test.YtbjcdpmhmebjnaaGreatB27
import Derived.Test.YtbjcdpmhmebjnaaGreatB28
namespace Go.Proofs.YtbjcdpmhmebjnaaGreat.semBegins
open Go.ChangeShapes Go.WideShapes Go.ChangeAt Go.RowKit
set_option linter.unusedVariables false

theorem w32_of {a : Int} (h : (Lit.int .u32 a).wf = true) : W32 a := by
  have := bounds_u32 h
  exact ⟨this.1, by omega⟩
set_option maxRecDepth 8000 in
set_option maxHeartbeats 8000000 in
theorem walk_v (c : Cor) (word : Int) (A X : Wnt) (e : Int) (ok : Bool) (hok : (e = 0 ∧ ok = true) ∨ (e = 1 ∧ ok = false))
    (h7 : ∀ w : World, Calls Tryz.prog 9 #[c.val, .int .u32 word] w fun r w' => r = .returned (.tuple #[A.val, .int .i64 e]) ∧ Below w.heap.size w w')
    (h8 : ∀ w : World, Calls Tryz.prog 10 #[c.val, .int .u32 word] w fun r w' => r = .returned (.tuple #[A.val, .bool ok]) ∧ Below w.heap.size w w')
    (h9 : ∀ w : World, Calls Tryz.prog 11 #[c.val] w fun r w' => r = .returned (.tuple #[X.val, .int .i64 e]) ∧ Below w.heap.size w w')
    (h10 : ∀ w : World, Calls Tryz.prog 12 #[c.val] w fun r w' => r = .returned (.tuple #[X.val, .bool ok]) ∧ Below w.heap.size w w') (w : World) :
    Calls Tryz.prog 3 #[c.val, .int .u32 word] w fun e w' => e = .returned (.bool true) ∧ Below w.heap.size w w' := by
  rcases hok with ⟨rfl, rfl⟩ | ⟨rfl, rfl⟩
  all_goals
    go_enter Tryz.func3, Tryz.ntmps3
    go_upto_region 1 with fail
    have H := (has_none w).new 26 c.cells
    generalize hb : w.heap.size = b at H ⊢
    generalize w.alloc _ = w0 at H ⊢
    go_upto_region 2 with ((go_at_call 8; refine (examples_c _).mono ?_; rintro e wa ⟨rfl, hB⟩; dsimp only; replace H := H.grow hB))
    go_upto_region 3 with (first | ((with_reducible refine wpList_load_ifA rfl 26 _ rfl b rfl 26 _ (0, 0) _ (H.get List.mem_cons_self) Tryz.underlying26 rfl (Cor.info _) ?_); simp only [Act.put, List.setIfInBounds_toArray, List.set_cons_succ, List.set_cons_zero]) | (go_at_call 9; refine (h7 _).mono ?_; rintro e wa ⟨rfl, hB⟩; dsimp only; replace H := H.grow hB) | ((with_reducible refine wpList_store_new H rfl 30 _ _ rfl A.cells rfl rfl (Wnt.info _) ?_ (Wnt.one _) ?_); (focus rfl); intro wb H; simp only [Act.put]))
    generalize wa.heap.size = t6 at H ⊢
    go_upto_region 4 with (first | ((with_reducible refine wpList_load_ifA rfl 26 _ rfl b rfl 26 _ (0, 0) _ (H.get (List.mem_cons_of_mem _ List.mem_cons_self)) Tryz.underlying26 rfl (Cor.info _) ?_); simp only [Act.put, List.setIfInBounds_toArray, List.set_cons_succ, List.set_cons_zero]) | (go_at_call 10; refine (h8 _).mono ?_; rintro e wa ⟨rfl, hB⟩; dsimp only; replace H := H.grow hB) | ((with_reducible refine wpList_store_new H rfl 30 _ _ rfl A.cells rfl rfl (Wnt.info _) ?_ (Wnt.one _) ?_); (focus rfl); intro wb H; simp only [Act.put]))
    generalize wa.heap.size = t8 at H ⊢
    go_upto_region 5 with (first | ((with_reducible refine wpList_load_ifA rfl 26 _ rfl b rfl 26 _ (0, 0) _ (H.get (List.mem_cons_of_mem _ (List.mem_cons_of_mem _ List.mem_cons_self))) Tryz.underlying26 rfl (Cor.info _) ?_); simp only [Act.put, List.setIfInBounds_toArray, List.set_cons_succ, List.set_cons_zero]) | (go_at_call 11; refine (h9 _).mono ?_; rintro e wa ⟨rfl, hB⟩; dsimp only; replace H := H.grow hB) | ((with_reducible refine wpList_store_new H rfl 30 _ _ rfl X.cells rfl rfl (Wnt.info _) ?_ (Wnt.one _) ?_); (focus rfl); intro wb H; simp only [Act.put]))
    generalize wa.heap.size = t10 at H ⊢
    go_upto_region 6 with (first | ((with_reducible refine wpList_load_ifA rfl 26 _ rfl b rfl 26 _ (0, 0) _ (H.get (List.mem_cons_of_mem _ (List.mem_cons_of_mem _ (List.mem_cons_of_mem _ List.mem_cons_self)))) Tryz.underlying26 rfl (Cor.info _) ?_); simp only [Act.put, List.setIfInBounds_toArray, List.set_cons_succ, List.set_cons_zero]) | (go_at_call 12; refine (h10 _).mono ?_; rintro e wa ⟨rfl, hB⟩; dsimp only; replace H := H.grow hB) | ((with_reducible refine wpList_store_new H rfl 30 _ _ rfl X.cells rfl rfl (Wnt.info _) ?_ (Wnt.one _) ?_); (focus rfl); intro wb H; simp only [Act.put]))
    generalize wa.heap.size = t12 at H ⊢
    go_wp2_with (first | ((with_reducible refine wpList_load_ifA rfl 30 _ rfl t6 rfl 30 _ (0, 0) _ (H.get (List.mem_cons_of_mem _ (List.mem_cons_of_mem _ (List.mem_cons_of_mem _ List.mem_cons_self)))) Tryz.underlying30 rfl (Wnt.info _) ?_); simp only [Act.put, List.setIfInBounds_toArray, List.set_cons_succ, List.set_cons_zero]) | ((with_reducible refine wpList_load_ifA rfl 30 _ rfl t8 rfl 30 _ (0, 0) _ (H.get (List.mem_cons_of_mem _ (List.mem_cons_of_mem _ List.mem_cons_self))) Tryz.underlying30 rfl (Wnt.info _) ?_); simp only [Act.put, List.setIfInBounds_toArray, List.set_cons_succ, List.set_cons_zero]) | ((with_reducible refine wpList_load_ifA rfl 30 _ rfl t10 rfl 30 _ (0, 0) _ (H.get (List.mem_cons_of_mem _ List.mem_cons_self)) Tryz.underlying30 rfl (Wnt.info _) ?_); simp only [Act.put, List.setIfInBounds_toArray, List.set_cons_succ, List.set_cons_zero]) | ((with_reducible refine wpList_load_ifA rfl 30 _ rfl t12 rfl 30 _ (0, 0) _ (H.get List.mem_cons_self) Tryz.underlying30 rfl (Wnt.info _) ?_); simp only [Act.put, List.setIfInBounds_toArray, List.set_cons_succ, List.set_cons_zero]) | ((with_reducible refine wpList_eql_w rfl _ _ rfl _ _ rfl rfl true (eqW_refl _) ?_); simp only [Act.put, List.setIfInBounds_toArray, List.set_cons_succ, List.set_cons_zero]))
    go_ret
    exact ⟨rfl, by first | exact H.below | (rw [← hb]; exact H.below)⟩
theorem walk (c : Cor) (wc : c.WF) (word : Int) (hw : (Lit.int .u32 word).wf = true) (w : World) :
    Calls Tryz.prog 3 #[c.val, .int .u32 word] w fun e w' => e = .returned (.bool true) ∧ Below w.heap.size w w' := by
  have hW := w32_of hw
  refine walk_v c word _ _ (errC c) (rightC c) ?_ (begin_c c word hW) (qbegin_c c word hW wc.x) (fetch_c c wc.pc.1) (qfetch_c c wc.pc.1) w
  cases hr : rightC c
  · exact .inr ⟨by simp [errC, hr], rfl⟩
  · exact .inl ⟨by simp [errC, hr], rfl⟩

set_option maxRecDepth 100000 in
theorem lifted (os : Os) (started : os.Started) (H : Type) (enc : TypeId × Value → H) :
    ReturnsInHanded {} Tryz.checked os 3 .any (Rows.semBeginsSpec.pre6 enc Tryz.prog Tryz.f3 Rows.semBeginsRow.domain false) (Rows.semBeginsSpec.post enc Tryz.prog Tryz.f3 false true false false) := by
  refine returnsInHanded_of_change (C := Tryz.checked) own started (by kernel_rfl) Tryz.func3
    (ChangeSpec.witness6 (enc := enc) (C := Tryz.checked) false ⟨#[], #[nilC.val, .int .u32 0], []⟩ 8 (by kernel_rfl) (by kernel_rfl) (by kernel_rfl) (by kernel_rfl)) ?_
  intro W base args ds gs before hval0 hW hcnd _
  have hval : ∀ (j : Nat) t v, Tryz.f3.params[j]? = some t → args[j]? = some v → Value.okWide Tryz.prog W .any base t v := hval0
  have hW' := hW
  obtain ⟨p, q, hA0, hV, rfl, hfz, hnd⟩ := hW
  have hA : DataW.TrodAll enc Tryz.prog W 0 (fun _ => true) true Tryz.f3.params.toList args.toList ds p := hA0
  rw [Tryz.params3] at hA hval
  obtain ⟨v0, vs0, d0, ds0, p0, q0, hargs, rfl, rfl, h0, r0⟩ := trodAll_cons hA
  obtain ⟨v1, vs1, d1, ds1, p1, q1, rfl, rfl, rfl, h1, r1⟩ := trodAll_cons r0
  obtain ⟨rfl, rfl, rfl⟩ := trodAll_nil r1
  obtain rfl : args = #[v0, v1] := by cases args; simp_all
  obtain ⟨rfl, rfl⟩ := trodVars_none hV
  obtain ⟨c, rfl, wc⟩ := open_core (hval 0 26 v0 rfl rfl) h0
  obtain rfl := (Trod_flat (w' := W) (b' := 0) (s' := fun _ => true) (h' := true) flat26 h0).1
  obtain ⟨a1, rfl, rfl, rfl, w1⟩ := open_int Tryz.underlying27 (hval 1 27 v1 rfl rfl) h1
  clear hA0 hval0
  simp only [List.append_nil] at hW'
  refine (walk c wc a1 w1 W).mono fun e W' ⟨he, hb⟩ => ?_
  subst he
  exact ⟨_, rfl, post_flat hW' (fun _ _ _ => (trodAll_cons_mk (shut_bool Tryz.underlying4 _) trodAll_mk0)) (fun sp => (trodAll_cons_mk (Trod_flat flat26 h0 |>.2) (trodAll_cons_mk (shut_int Tryz.underlying27 w1) trodAll_mk0))) (fun _ => rfl) (fun may => hb.frame may) (ok_one (by kernel_rfl) rfl (okWide_bool_mk Tryz.underlying4 _))⟩

theorem over : Rows.semBeginsRow.holds Tryz.pinned (OpenSpec.ofChange Rows.semBeginsSpec) :=
  OpenClaim.holds_of_wide 3 Tryz.f3 rfl rfl rfl rfl rfl rfl rfl ⟨rfl, rfl, rfl, rfl, rfl⟩ rfl rfl rfl rfl rfl (by kernel_rfl) Tryz.func3 (by kernel_rfl)
    (of_decide_eq_true (by kernel_rfl)) (by unfold Func.isWrapper; first | (rw [if_pos (by decide +kernel)]; kernel_rfl) | (rw [if_neg (by decide +kernel)]; exact ⟨rfl, rfl⟩))
    (fun os started H enc _ => lifted os started H enc)

theorem proved : Rows.SemBeginsSaid :=
  over
end Go.Proofs.YtbjcdpmhmebjnaaGreat.semBegins

namespace Go.Proofs.YtbjcdpmhmebjnaaGreat
theorem semBegins_holds : Rows.SemBeginsSaid := semBegins.proved
#print axioms semBegins_holds
end Go.Proofs.YtbjcdpmhmebjnaaGreat
