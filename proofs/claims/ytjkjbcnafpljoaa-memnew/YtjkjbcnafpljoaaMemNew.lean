/- For all numbers of words, cores and stores a buffer: New makes a memory of these, all 0, or refuses, just as the document says: MemNew returns true, whatever its arguments. -/
import Derived.Test.YtjkjbcnafpljoaaKn
import Derived.Test.YtjkjbcnafpljoaaFlat
namespace Go.Proofs.Ytjkjbcnafpljoaa.memNew
open Go.ChangeShapes Go.WideShapes Go.ChangeAt Go.RowKit
set_option linter.unusedVariables false
set_option linter.unusedSimpArgs false

theorem own : ownKnob Try.prog.godebug = none := by kernel_rfl
theorem wrongT {n c d : Int} (h : n < 1 ∨ 8192 < n ∨ c < 1 ∨ 8 < c ∨ d < 1 ∨ 32 < d) : (!newB n c d) = true := by
  cases e : newB n c d
  · rfl
  · simp only [newB, Bool.and_eq_true, decide_eq_true_eq] at e
    omega
theorem wrongF {n c d : Int} (h1 : 1 ≤ n ∧ n ≤ 8192) (h2 : 1 ≤ c ∧ c ≤ 8) (h3 : 1 ≤ d ∧ d ≤ 32) : (!newB n c d) = false := by
  have : newB n c d = true := by simp only [newB, Bool.and_eq_true, decide_eq_true_eq]; omega
  rw [this]; rfl
set_option maxRecDepth 4000 in
theorem wrong_c (n c d : Int) (w : World) : Calls Try.prog 11 #[vI n, vI c, vI d] w fun e w' => e = .returned (.bool (!newB n c d)) ∧ w' = w := by
  by_cases h0 : n < 1
  · have hv : (!newB n c d) = true := wrongT (by omega)
    go_enter Try.func11, Try.ntmps11
    go_wp2
    go_ret
    exact ⟨by first | rfl | (rw [hv]; rfl), rfl⟩
  · skip
    by_cases h1 : 8192 < n
    · have hv : (!newB n c d) = true := wrongT (by omega)
      go_enter Try.func11, Try.ntmps11
      go_wp2
      go_ret
      exact ⟨by first | rfl | (rw [hv]; rfl), rfl⟩
    · skip
      by_cases h2 : c < 1
      · have hv : (!newB n c d) = true := wrongT (by omega)
        go_enter Try.func11, Try.ntmps11
        go_wp2
        go_ret
        exact ⟨by first | rfl | (rw [hv]; rfl), rfl⟩
      · skip
        by_cases h3 : 8 < c
        · have hv : (!newB n c d) = true := wrongT (by omega)
          go_enter Try.func11, Try.ntmps11
          go_wp2
          go_ret
          exact ⟨by first | rfl | (rw [hv]; rfl), rfl⟩
        · skip
          by_cases h4 : d < 1
          · have hv : (!newB n c d) = true := wrongT (by omega)
            go_enter Try.func11, Try.ntmps11
            go_wp2
            go_ret
            exact ⟨by first | rfl | (rw [hv]; rfl), rfl⟩
          · skip
            by_cases h5 : 32 < d
            · have hv : (!newB n c d) = true := wrongT (by omega)
              go_enter Try.func11, Try.ntmps11
              go_wp2
              go_ret
              exact ⟨by first | rfl | (rw [hv]; rfl), rfl⟩
            · skip
              have hv : (!newB n c d) = false := wrongF (by omega) (by omega) (by omega)
              go_enter Try.func11, Try.ntmps11
              go_wp2
              go_ret
              exact ⟨by first | rfl | (rw [hv]; rfl), rfl⟩
theorem new_load {n c : Nat} {d : Int} (hn : 1 ≤ n) (hc : 1 ≤ c) : loadP (newS n c d) ((c : Int) - 1) (8 * ((n : Int) - 1)) = (0, 0) ∧ okB (newS n c d) ((c : Int) - 1) (8 * ((n : Int) - 1)) = true := by
  have h1 : hasCoreB (newS n c d) ((c : Int) - 1) = true := by simp [hasCoreB, newS]; omega
  have h2 : hasWordB (newS n c d) (8 * ((n : Int) - 1)) = true := by simp [hasWordB, withinB, newS]; omega
  have h3 : okB (newS n c d) ((c : Int) - 1) (8 * ((n : Int) - 1)) = true := by rw [okB, h1, h2]; rfl
  refine ⟨?_, h3⟩
  have hb : bufOf (newS n c d) ((c : Int) - 1) = [] := by
    rw [bufOf, newS]
    simp only [List.getD, List.getElem?_replicate]
    split <;> rfl
  rw [loadP, h3, if_pos rfl, hb]
  simp only [nw, List.reverse_nil, List.find?_nil, peekV, peekT, h2, if_true]
  simp only [newS, List.getD, List.getElem?_replicate]
  split <;> rfl
theorem new_off {n c : Nat} {d : Int} : okB (newS n c d) ((c : Int) - 1) (8 * (n : Int)) = false := by
  have : hasWordB (newS n c d) (8 * (n : Int)) = false := by simp [hasWordB, withinB, newS]
  rw [okB, this, Bool.and_false]
set_option maxRecDepth 8000 in
set_option maxHeartbeats 2000000 in
theorem yes (n c : Nat) (d : Int) (hB : newB n c d = true) (w : World) : Calls Try.prog 3 #[vI n, vI c, vI d] w fun e w' => e = .returned (.bool true) ∧ Below w.heap.size w w' := by
  have O := new_ok hB
  have hB' := hB
  simp only [newB, Bool.and_eq_true, decide_eq_true_eq] at hB'
  obtain ⟨l1, l2⟩ := new_load (n := n) (c := c) (d := d) (by omega) (by omega)
  have l3 := new_off (n := n) (c := c) (d := d)
  have o1 : orderL (newS n c d) = [] := rfl
  have s1 : (newS n c d).stamps.length = 0 := rfl
  have s2 : (newS n c d).words.length = n := by simp [newS]
  have s3 : (newS n c d).bufs.length = c := by simp [newS]
  have s4 : (newS n c d).depth = d := rfl
  have e1 : IntKind.i64.wrap (8 * ((n : Int) - 1)) = 8 * ((n : Int) - 1) := by rw [IntKind.wrap_i64]; omega
  have e2 : IntKind.u64.wrap (8 * ((n : Int) - 1)) = 8 * ((n : Int) - 1) := by rw [IntKind.wrap_u64]; omega
  have e3 : IntKind.i64.wrap (8 * (n : Int)) = 8 * (n : Int) := by rw [IntKind.wrap_i64]; omega
  have e4 : IntKind.u64.wrap (8 * (n : Int)) = 8 * (n : Int) := by rw [IntKind.wrap_u64]; omega
  have e5 : IntKind.i64.wrap ((n : Int) - 1) = (n : Int) - 1 := by rw [IntKind.wrap_i64]; omega
  have e6 : IntKind.i64.wrap ((c : Int) - 1) = (c : Int) - 1 := by rw [IntKind.wrap_i64]; omega
  have u1 : U64 (8 * ((n : Int) - 1)) := ⟨by omega, by omega⟩
  have u2 : U64 (8 * (n : Int)) := ⟨by omega, by omega⟩
  clear hB'
  go_enter Try.func3, Try.ntmps3
  go_upto_region 4 with (first | (go_at_call 9; refine (known_c _).mono ?_; rintro e w1 ⟨rfl, hb1⟩; dsimp only) | (go_at_call 10; refine (new_l n c d w1 hB).mono ?_; rintro e w2 ⟨g, rfl, H⟩; dsimp only) | (go_at_call 11; refine (wrong_c n c d _).mono ?_; rintro e w' ⟨rfl, rfl⟩; dsimp only; rw [hB]))
  go_upto_region 9 with (go_at_call 12; refine (load_l H O ((c : Int) - 1) (8 * ((n : Int) - 1)) u1).mono ?_; rintro e w3 ⟨rfl, H3⟩; dsimp only; rw [l1, l2])
  go_upto_region 10 with (go_at_call 12; refine (load_l H3 O ((c : Int) - 1) (8 * (n : Int)) u2).mono ?_; rintro e w4 ⟨rfl, H4⟩; dsimp only; rw [l3])
  go_wp2_with (first | (go_at_call 13; refine (words_l H4 O).mono ?_; rintro e w5 ⟨rfl, H5⟩; dsimp only; rw [s2]) | (go_at_call 14; refine (cores_l H5 O).mono ?_; rintro e w6 ⟨rfl, H6⟩; dsimp only; rw [s3]) | (go_at_call 15; refine (depth_l H6 O).mono ?_; rintro e w7 ⟨rfl, H7⟩; dsimp only; rw [s4]) | (go_at_call 16; refine (tickets_l H7 O).mono ?_; rintro e w8 ⟨rfl, H8⟩; dsimp only; rw [s1]) | (go_at_call 17; refine (order_l H8 O (by rw [s1]; decide)).mono ?_; rintro e w9 ⟨o, rfl, ho, H9⟩; rw [o1] at ho; obtain ⟨oa, oc, rfl, _, _⟩ := own_len ho; dsimp only))
  go_ret
  exact ⟨rfl, below_then hb1 (Nat.le_refl _) (H9.below.mono (Nat.le_refl _))⟩
set_option maxRecDepth 8000 in
theorem no (n c d : Int) (hB : newB n c d = false) (w : World) : Calls Try.prog 3 #[vI n, vI c, vI d] w fun e w' => e = .returned (.bool true) ∧ Below w.heap.size w w' := by
  go_enter Try.func3, Try.ntmps3
  go_wp2_with (first | (go_at_call 9; refine (known_c _).mono ?_; rintro e w1 ⟨rfl, hb1⟩; dsimp only) | (go_at_call 10; refine (new_no n c d _ hB).mono ?_; rintro e w' ⟨rfl, rfl⟩; dsimp only) | (go_at_call 11; refine (wrong_c n c d _).mono ?_; rintro e w' ⟨rfl, rfl⟩; dsimp only; rw [hB]))
  go_ret
  exact ⟨rfl, hb1⟩
theorem walk (a b d : Int) (w0 : (Lit.int .i64 a).wf = true) (w1 : (Lit.int .i64 b).wf = true) (w2 : (Lit.int .i64 d).wf = true) (w : World) : Calls Try.prog 3 #[.int .i64 a, .int .i64 b, .int .i64 d] w fun e w' => e = .returned (.bool true) ∧ Below w.heap.size w w' := by
  cases h : newB a b d
  · exact no a b d h w
  · have h' := h
    simp only [newB, Bool.and_eq_true, decide_eq_true_eq] at h'
    obtain ⟨n, rfl⟩ : ∃ n : Nat, a = n := ⟨a.toNat, by omega⟩
    obtain ⟨c, rfl⟩ : ∃ c : Nat, b = c := ⟨b.toNat, by omega⟩
    exact yes n c d h w

set_option maxRecDepth 100000 in
theorem lifted (os : Os) (started : os.Started) (H : Type) (enc : TypeId × Value → H) :
    ReturnsInHanded {} Try.checked os 3 .any (Rows.memNewSpec.pre6 enc Try.prog Try.f3 Rows.memNewRow.domain false) (Rows.memNewSpec.post enc Try.prog Try.f3 false true false false) := by
  refine returnsInHanded_of_change (C := Try.checked) own started (by kernel_rfl) Try.func3
    (ChangeSpec.witness6 (enc := enc) (C := Try.checked) false ⟨#[], #[.int .i64 0, .int .i64 0, .int .i64 0], []⟩ 8 (by kernel_rfl) (by kernel_rfl) (by kernel_rfl) (by kernel_rfl)) ?_
  intro W base args ds gs before hval0 hW hcnd _
  have hval : ∀ (j : Nat) t v, Try.f3.params[j]? = some t → args[j]? = some v → Value.okWide Try.prog W .any base t v := hval0
  have hW' := hW
  obtain ⟨p, q, hA0, hV, rfl, hfz, hnd⟩ := hW
  have hA : DataW.TrodAll enc Try.prog W 0 (fun _ => true) true Try.f3.params.toList args.toList ds p := hA0
  rw [Try.params3] at hA hval
  obtain ⟨v0, vs0, d0, ds0, p0, q0, hargs, rfl, rfl, h0, r0⟩ := trodAll_cons hA
  obtain ⟨v1, vs1, d1, ds1, p1, q1, rfl, rfl, rfl, h1, r1⟩ := trodAll_cons r0
  obtain ⟨v2, vs2, d2, ds2, p2, q2, rfl, rfl, rfl, h2, r2⟩ := trodAll_cons r1
  obtain ⟨rfl, rfl, rfl⟩ := trodAll_nil r2
  obtain rfl : args = #[v0, v1, v2] := by cases args; simp_all
  obtain ⟨rfl, rfl⟩ := trodVars_none hV
  obtain ⟨a0, rfl, rfl, rfl, w0⟩ := open_int Try.underlying3 (hval 0 3 v0 rfl rfl) h0
  obtain ⟨a1, rfl, rfl, rfl, w1⟩ := open_int Try.underlying3 (hval 1 3 v1 rfl rfl) h1
  obtain ⟨a2, rfl, rfl, rfl, w2⟩ := open_int Try.underlying3 (hval 2 3 v2 rfl rfl) h2
  clear hA0 hval0
  simp only [List.append_nil] at hW'
  refine (walk a0 a1 a2 w0 w1 w2 W).mono fun e W' ⟨he, hb⟩ => ?_
  subst he
  exact ⟨_, rfl, post_flat hW' (fun _ _ _ => (trodAll_cons_mk (shut_bool Try.underlying4 _) trodAll_mk0)) (fun sp => (trodAll_cons_mk (shut_int Try.underlying3 w0) (trodAll_cons_mk (shut_int Try.underlying3 w1) (trodAll_cons_mk (shut_int Try.underlying3 w2) trodAll_mk0)))) (fun _ => rfl) (fun may => hb.frame may) (ok_one (by kernel_rfl) rfl (okWide_bool_mk Try.underlying4 _))⟩

theorem over : Rows.memNewRow.holds Try.pinned (OpenSpec.ofChange Rows.memNewSpec) :=
  OpenClaim.holds_of_wide 3 Try.f3 rfl rfl rfl rfl rfl rfl rfl ⟨rfl, rfl, rfl, rfl, rfl⟩ rfl rfl rfl rfl rfl (by kernel_rfl) Try.func3 (by kernel_rfl)
    (of_decide_eq_true (by kernel_rfl)) (by unfold Func.isWrapper; first | (rw [if_pos (by decide +kernel)]; kernel_rfl) | (rw [if_neg (by decide +kernel)]; exact ⟨rfl, rfl⟩))
    (fun os started H enc _ => lifted os started H enc)

theorem proved : Rows.MemNewSaid :=
  over
end Go.Proofs.Ytjkjbcnafpljoaa.memNew

namespace Go.Proofs.Ytjkjbcnafpljoaa
theorem memNew_holds : Rows.MemNewSaid := memNew.proved
#print axioms memNew_holds
end Go.Proofs.Ytjkjbcnafpljoaa
