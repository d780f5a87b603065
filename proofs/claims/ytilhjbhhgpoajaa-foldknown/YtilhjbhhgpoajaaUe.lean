/- What is known: get. -/
import Derived.Test.YtilhjbhhgpoajaaUd
namespace Go.Proofs.Ytilhjbhhgpoajaa
open Go.RowKit
set_option linter.unusedVariables false
set_option linter.unusedSimpArgs false
set_option maxRecDepth 8000

theorem keepRow {w w' : World} {b : Nat} {cs : Array Value} {t : TypeId} (h : w.heap[b]? = some (.cells cs t)) (hb : Below w.heap.size w w') : w'.heap[b]? = some (.cells cs t) := by rw [hb.block _ (lt_of_some h)]; exact h
section
variable {G : Fh} {c : Nat} {S : Fo} {u : Value} {w : World}
theorem get_c (h : FoAt G c S u w) (o : Opr) (hk : SmallI o.kind) (hr : SmallI o.r) (hc : c < 100000) (hl : S.laid.length ≤ 100000) : Calls Try.prog 64 #[ptr G.p 0, opV o] w fun e w' => e = .returned (vI (S.get o).2) ∧ FT G (c + 1) (S.get o).1 u w w' := by
  have hb := below_alloc w (.cells (opA o) 45)
  have L : LocO w.heap.size o (w.alloc (.cells (opA o) 45)) := LocO.new w o
  have apO : Apart G u w.heap.size := h.apart (Nat.le_refl _)
  have R := FM.from hb (h.grow hb).here
  have hsz : w.heap.size < (w.alloc (.cells (opA o) 45)).heap.size := by simp
  clear hb
  go_enter Try.func64, Try.ntmps64
  go_upto_region 1 with fail
  generalize w.alloc (.cells (opA o) 45) = w1 at *
  have y0 := L.c0
  have y1 := L.c1
  have Hn := has_none w1
  go_upto_region 2 with (first | ((with_reducible refine wpList_built rfl 93 _ rfl (rgA (o.kind) o.r) (by kernel_rfl) ?_); simp only [Act.put, List.setIfInBounds_toArray, List.set_cons_succ, List.set_cons_zero]) | ((with_reducible refine wpList_store_new Hn rfl 93 _ _ rfl (rgA (o.kind) o.r) rfl rfl (rg_inf _ _) (by kernel_rfl) (rg_one _ _) ?_); clear Hn; intro w2 Hn; simp only [Act.put, List.setIfInBounds_toArray, List.set_cons_succ, List.set_cons_zero]))
  have K : w2.heap[w1.heap.size]? = some (.cells (rgA (o.kind) o.r) 93) := Hn.get List.mem_cons_self
  have apR : Apart G u w1.heap.size := h.apart (R.goes.size)
  replace R := R.grow Hn.below
  replace L := L.grow Hn.below
  clear y0 y1 Hn h hsz
  generalize w1.heap.size = t2 at *
  generalize w.heap.size = t1 at *
  refine wp_region_still_tail 10 (by kernel_rfl) (by kernel_rfl) ?_
  replace R := R.grow (below_dr w2)
  replace L := L.grow (below_dr w2)
  replace K := keepRow K (below_dr w2)
  generalize ({ w2 with drawn := w2.drawn + 1 } : World) = w3 at *
  have z0 := R.at_.c0
  have zl := R.at_.map.look hk hr
  simp only [List.take_succ_cons, List.take_zero, List.drop_succ_cons, List.drop_zero]
  cases hkn : S.known o.kind o.r with
  | some q =>
    rw [hkn] at zl
    dsimp only at zl
    repeat (first | still_step | ((with_reducible refine still_row rfl _ _ rfl rfl (run_reg K) ?_); simp only [Act.put, List.setIfInBounds_toArray, List.set_cons_succ, List.set_cons_zero]) | ((with_reducible refine still_row rfl _ _ rfl rfl A3 ?_); simp only [Act.put, List.setIfInBounds_toArray, List.set_cons_succ, List.set_cons_zero]))
    refine wpStill_nil ?_
    clear z0 zl
    go_wp2
    go_ret
    have e : S.get o = (S, q) := by unfold Fo.get; rw [hkn]
    rw [e]
    exact ⟨rfl, _, R.mono (Nat.le_succ _)⟩
  | none =>
    rw [hkn] at zl
    dsimp only at zl
    repeat (first | still_step | ((with_reducible refine still_row rfl _ _ rfl rfl (run_reg K) ?_); simp only [Act.put, List.setIfInBounds_toArray, List.set_cons_succ, List.set_cons_zero]) | ((with_reducible refine still_row rfl _ _ rfl rfl A3 ?_); simp only [Act.put, List.setIfInBounds_toArray, List.set_cons_succ, List.set_cons_zero]))
    refine wpStill_nil ?_
    clear z0 zl
    go_upto_region 4 with fail
    refine wp_region_still_tail 5 (by kernel_rfl) (by kernel_rfl) ?_
    replace R := R.grow (below_dr w3)
    replace L := L.grow (below_dr w3)
    replace K := keepRow K (below_dr w3)
    generalize ({ w3 with drawn := w3.drawn + 1 } : World) = w4 at *
    have z1 := R.at_.c1
    have A3 := run_load42 L.at_
    simp only [List.take_succ_cons, List.take_zero, List.drop_succ_cons, List.drop_zero]
    repeat (first | still_step | ((with_reducible refine still_row rfl _ _ rfl rfl (run_reg K) ?_); simp only [Act.put, List.setIfInBounds_toArray, List.set_cons_succ, List.set_cons_zero]) | ((with_reducible refine still_row rfl _ _ rfl rfl A3 ?_); simp only [Act.put, List.setIfInBounds_toArray, List.set_cons_succ, List.set_cons_zero]))
    refine wpStill_nil ?_
    have kp := put_c R.at_ o hl
    have hK := lt_of_some K
    clear z1 A3 L
    go_upto_region 5 with (go_at_call 36; (with_reducible refine kp.mono ?_); clear kp; rintro e w5 ⟨rfl, u5, R5⟩; dsimp only)
    replace K := R5.keeps apR K
    replace R := R.then R5
    clear R5
    refine wp_region_still_tail 6 (by kernel_rfl) (by kernel_rfl) ?_
    replace R := R.grow (below_dr w5)
    replace K := keepRow K (below_dr w5)
    generalize ({ w5 with drawn := w5.drawn + 1 } : World) = w6 at *
    have z0 := R.at_.c0
    simp only [List.take_succ_cons, List.take_zero, List.drop_succ_cons, List.drop_zero]
    repeat (first | still_step | ((with_reducible refine still_row rfl _ _ rfl rfl (run_reg K) ?_); simp only [Act.put, List.setIfInBounds_toArray, List.set_cons_succ, List.set_cons_zero]) | ((with_reducible refine still_row rfl _ _ rfl rfl A3 ?_); simp only [Act.put, List.setIfInBounds_toArray, List.set_cons_succ, List.set_cons_zero]))
    refine wpStill_nil ?_
    obtain ⟨w7, q1, q2, q3, q4⟩ := R.at_.map.put hk hr hc S.laid.length
    (with_reducible refine upd_run rfl _ _ _ _ rfl (.map (some G.m)) (.agg (rgA o.kind o.r)) (vI S.laid.length) rfl rfl rfl q1 ?_)
    simp only [Act.put, List.setIfInBounds_toArray, List.set_cons_succ, List.set_cons_zero]
    have R7 := R.then (R.at_.turn q2 q3)
    clear z0 q1 q2 q3 q4 K
    go_wp2
    go_ret
    have e : S.get o = ((S.put o).know o.kind o.r S.laid.length, S.laid.length) := by unfold Fo.get; rw [hkn]
    rw [e]
    exact ⟨rfl, _, R7⟩
set_option maxHeartbeats 2000000 in
theorem isFlag_c (o : Opr) (w : World) : Calls Try.prog 77 #[opV o] w fun e w' => e = .returned (.bool (flagB o)) ∧ Below w.heap.size w w' := by
  have hb := below_alloc w (.cells (opA o) 45)
  have L : LocO w.heap.size o (w.alloc (.cells (opA o) 45)) := LocO.new w o
  have y0 := L.c0
  have y1 := L.c1
  have y5 := L.c5
  unfold flagB
  by_cases h6 : o.kind = 6
  · rw [if_pos h6]
    rw [h6] at y0
    go_enter Try.func77, Try.ntmps77
    go_wp2
    go_ret
    exact ⟨rfl, hb⟩
  · rw [if_neg h6]
    by_cases h1 : o.kind = 1
    · rw [if_pos h1]
      rw [h1] at y0
      go_enter Try.func77, Try.ntmps77
      go_wp2
      go_ret
      exact ⟨rfl, hb⟩
    · rw [if_neg h1]
      by_cases h8 : o.kind = 8
      · rw [if_pos h8]
        rw [h8] at y0
        by_cases k1 : o.r = 13
        · rw [k1] at y1 ⊢
          go_enter Try.func77, Try.ntmps77
          go_wp2
          go_ret
          exact ⟨rfl, hb⟩
        · by_cases k2 : o.r = 14
          · rw [k2] at y1 ⊢
            go_enter Try.func77, Try.ntmps77
            go_wp2
            go_ret
            exact ⟨rfl, hb⟩
          · have b1 : (o.r == 13) = false := by simpa using k1
            have b2 : (o.r == 14) = false := by simpa using k2
            go_enter Try.func77, Try.ntmps77
            go_wp2
            go_ret
            exact ⟨by rw [b1, b2]; rfl, hb⟩
      · rw [if_neg h8]
        have b6 : (o.kind == 6) = false := by simpa using h6
        have b1 : (o.kind == 1) = false := by simpa using h1
        have b8 : (o.kind == 8) = false := by simpa using h8
        go_enter Try.func77, Try.ntmps77
        go_wp2
        go_ret
        exact ⟨rfl, hb⟩
end
end Go.Proofs.Ytilhjbhhgpoajaa
