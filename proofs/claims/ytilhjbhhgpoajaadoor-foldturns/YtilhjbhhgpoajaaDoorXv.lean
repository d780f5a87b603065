/- Ue, Uf of the seat, joined. -/
import Derived.Test.YtilhjbhhgpoajaaDoorXu
/- What is known: get. -/
namespace Go.Proofs.YtilhjbhhgpoajaaDoor
open Go.RowKit
set_option linter.unusedVariables false
set_option linter.unusedSimpArgs false
set_option maxRecDepth 8000

theorem keepRow {w w' : World} {b : Nat} {cs : Array Value} {t : TypeId} (h : w.heap[b]? = some (.cells cs t)) (hb : Below w.heap.size w w') : w'.heap[b]? = some (.cells cs t) := by rw [hb.block _ (lt_of_some h)]; exact h
section
variable {G : Fh} {c : Nat} {S : Fo} {u : Value} {w : World}
theorem get_c (h : FoAt G c S u w) (o : Opr) (hk : SmallI o.kind) (hr : SmallI o.r) (hc : c < 100000) (hl : S.laid.length ≤ 100000) : Calls Tryd.prog 34 #[ptr G.p 0, opV o] w fun e w' => e = .returned (vI (S.get o).2) ∧ FT G (c + 1) (S.get o).1 u w w' := by
  have hb := below_alloc w (.cells (opA o) 37)
  have L : LocO w.heap.size o (w.alloc (.cells (opA o) 37)) := LocO.new w o
  have apO : Apart G u w.heap.size := h.apart (Nat.le_refl _)
  have R := FM.from hb (h.grow hb).here
  have hsz : w.heap.size < (w.alloc (.cells (opA o) 37)).heap.size := by simp
  clear hb
  go_enter Tryd.func34, Tryd.ntmps34
  go_upto_region 1 with fail
  generalize w.alloc (.cells (opA o) 37) = w1 at *
  have y0 := L.c0
  have y1 := L.c1
  have Hn := has_none w1
  go_upto_region 2 with (first | ((with_reducible refine wpList_built rfl 75 _ rfl (rgA (o.kind) o.r) (by kernel_rfl) ?_); simp only [Act.put, List.setIfInBounds_toArray, List.set_cons_succ, List.set_cons_zero]) | ((with_reducible refine wpList_store_new Hn rfl 75 _ _ rfl (rgA (o.kind) o.r) rfl rfl (rg_inf _ _) (by kernel_rfl) (rg_one _ _) ?_); clear Hn; intro w2 Hn; simp only [Act.put, List.setIfInBounds_toArray, List.set_cons_succ, List.set_cons_zero]))
  have K : w2.heap[w1.heap.size]? = some (.cells (rgA (o.kind) o.r) 75) := Hn.get List.mem_cons_self
  have apR : Apart G u w1.heap.size := h.apart (R.goes.size)
  replace R := R.grow Hn.below
  replace L := L.grow Hn.below
  clear y0 y1 Hn h hsz
  generalize w1.heap.size = t2 at *
  generalize w.heap.size = t1 at *
  refine wp_region_still_tail 10 (by kernel_rfl) (by kernel_rfl) ?_
  replace R := R.grow (below_dr w2)
  replace L := L.grow (below_dr w2)
  replace K := keepRow K (below_dr w2)
  generalize ({ w2 with drawn := w2.drawn + 1 } : World) = w3 at *
  have z0 := R.at_.c0
  have zl := R.at_.map.look hk hr
  simp only [List.take_succ_cons, List.take_zero, List.drop_succ_cons, List.drop_zero]
  cases hkn : S.known o.kind o.r with
  | some q =>
    rw [hkn] at zl
    dsimp only at zl
    repeat (first | still_step | ((with_reducible refine still_row rfl _ _ rfl rfl (run_reg K) ?_); simp only [Act.put, List.setIfInBounds_toArray, List.set_cons_succ, List.set_cons_zero]) | ((with_reducible refine still_row rfl _ _ rfl rfl A3 ?_); simp only [Act.put, List.setIfInBounds_toArray, List.set_cons_succ, List.set_cons_zero]))
    refine wpStill_nil ?_
    clear z0 zl
    go_wp2
    go_ret
    have e : S.get o = (S, q) := by unfold Fo.get; rw [hkn]
    rw [e]
    exact ⟨rfl, _, R.mono (Nat.le_succ _)⟩
  | none =>
    rw [hkn] at zl
    dsimp only at zl
    repeat (first | still_step | ((with_reducible refine still_row rfl _ _ rfl rfl (run_reg K) ?_); simp only [Act.put, List.setIfInBounds_toArray, List.set_cons_succ, List.set_cons_zero]) | ((with_reducible refine still_row rfl _ _ rfl rfl A3 ?_); simp only [Act.put, List.setIfInBounds_toArray, List.set_cons_succ, List.set_cons_zero]))
    refine wpStill_nil ?_
    clear z0 zl
    go_upto_region 4 with fail
    refine wp_region_still_tail 5 (by kernel_rfl) (by kernel_rfl) ?_
    replace R := R.grow (below_dr w3)
    replace L := L.grow (below_dr w3)
    replace K := keepRow K (below_dr w3)
    generalize ({ w3 with drawn := w3.drawn + 1 } : World) = w4 at *
    have z1 := R.at_.c1
    have A3 := run_load42 L.at_
    simp only [List.take_succ_cons, List.take_zero, List.drop_succ_cons, List.drop_zero]
    repeat (first | still_step | ((with_reducible refine still_row rfl _ _ rfl rfl (run_reg K) ?_); simp only [Act.put, List.setIfInBounds_toArray, List.set_cons_succ, List.set_cons_zero]) | ((with_reducible refine still_row rfl _ _ rfl rfl A3 ?_); simp only [Act.put, List.setIfInBounds_toArray, List.set_cons_succ, List.set_cons_zero]))
    refine wpStill_nil ?_
    have kp := put_c R.at_ o hl
    have hK := lt_of_some K
    clear z1 A3 L
    go_upto_region 5 with (go_at_call 26; (with_reducible refine kp.mono ?_); clear kp; rintro e w5 ⟨rfl, u5, R5⟩; dsimp only)
    replace K := R5.keeps apR K
    replace R := R.then R5
    clear R5
    refine wp_region_still_tail 6 (by kernel_rfl) (by kernel_rfl) ?_
    replace R := R.grow (below_dr w5)
    replace K := keepRow K (below_dr w5)
    generalize ({ w5 with drawn := w5.drawn + 1 } : World) = w6 at *
    have z0 := R.at_.c0
    simp only [List.take_succ_cons, List.take_zero, List.drop_succ_cons, List.drop_zero]
    repeat (first | still_step | ((with_reducible refine still_row rfl _ _ rfl rfl (run_reg K) ?_); simp only [Act.put, List.setIfInBounds_toArray, List.set_cons_succ, List.set_cons_zero]) | ((with_reducible refine still_row rfl _ _ rfl rfl A3 ?_); simp only [Act.put, List.setIfInBounds_toArray, List.set_cons_succ, List.set_cons_zero]))
    refine wpStill_nil ?_
    obtain ⟨w7, q1, q2, q3, q4⟩ := R.at_.map.put hk hr hc S.laid.length
    (with_reducible refine upd_run rfl _ _ _ _ rfl (.map (some G.m)) (.agg (rgA o.kind o.r)) (vI S.laid.length) rfl rfl rfl q1 ?_)
    simp only [Act.put, List.setIfInBounds_toArray, List.set_cons_succ, List.set_cons_zero]
    have R7 := R.then (R.at_.turn q2 q3)
    clear z0 q1 q2 q3 q4 K
    go_wp2
    go_ret
    have e : S.get o = ((S.put o).know o.kind o.r S.laid.length, S.laid.length) := by unfold Fo.get; rw [hkn]
    rw [e]
    exact ⟨rfl, _, R7⟩
set_option maxHeartbeats 2000000 in
theorem isFlag_c (o : Opr) (w : World) : Calls Tryd.prog 42 #[opV o] w fun e w' => e = .returned (.bool (flagB o)) ∧ Below w.heap.size w w' := by
  have hb := below_alloc w (.cells (opA o) 37)
  have L : LocO w.heap.size o (w.alloc (.cells (opA o) 37)) := LocO.new w o
  have y0 := L.c0
  have y1 := L.c1
  have y5 := L.c5
  unfold flagB
  by_cases h6 : o.kind = 6
  · rw [if_pos h6]
    rw [h6] at y0
    go_enter Tryd.func42, Tryd.ntmps42
    go_wp2
    go_ret
    exact ⟨rfl, hb⟩
  · rw [if_neg h6]
    by_cases h1 : o.kind = 1
    · rw [if_pos h1]
      rw [h1] at y0
      go_enter Tryd.func42, Tryd.ntmps42
      go_wp2
      go_ret
      exact ⟨rfl, hb⟩
    · rw [if_neg h1]
      by_cases h8 : o.kind = 8
      · rw [if_pos h8]
        rw [h8] at y0
        by_cases k1 : o.r = 13
        · rw [k1] at y1 ⊢
          go_enter Tryd.func42, Tryd.ntmps42
          go_wp2
          go_ret
          exact ⟨rfl, hb⟩
        · by_cases k2 : o.r = 14
          · rw [k2] at y1 ⊢
            go_enter Tryd.func42, Tryd.ntmps42
            go_wp2
            go_ret
            exact ⟨rfl, hb⟩
          · have b1 : (o.r == 13) = false := by simpa using k1
            have b2 : (o.r == 14) = false := by simpa using k2
            go_enter Tryd.func42, Tryd.ntmps42
            go_wp2
            go_ret
            exact ⟨by rw [b1, b2]; rfl, hb⟩
      · rw [if_neg h8]
        have b6 : (o.kind == 6) = false := by simpa using h6
        have b1 : (o.kind == 1) = false := by simpa using h1
        have b8 : (o.kind == 8) = false := by simpa using h8
        go_enter Tryd.func42, Tryd.ntmps42
        go_wp2
        go_ret
        exact ⟨rfl, hb⟩
end
end Go.Proofs.YtilhjbhhgpoajaaDoor
/- What is known: setFlag. -/
namespace Go.Proofs.YtilhjbhhgpoajaaDoor
open Go.RowKit
set_option linter.unusedVariables false
set_option linter.unusedSimpArgs false
set_option maxRecDepth 8000

section
variable {G : Fh} {c : Nat} {S : Fo} {u : Value} {w : World}
set_option maxHeartbeats 2000000 in
theorem setFlag_c (h : FoAt G c S u w) (o : Opr) (hr : SmallI o.r) (hc : c < 100000) (hl : S.laid.length ≤ 100000) (h0 : 0 ≤ o.a) (hA : o.a.toNat < S.laid.length) : Calls Tryd.prog 36 #[ptr G.p 0, opV o] w fun e w' => e = .returned (vI (S.setFlag o).2) ∧ FT G (c + 1) (S.setFlag o).1 u w w' := by
  have h6 : SmallI 6 := ⟨by decide, by decide⟩
  obtain ⟨q, hq⟩ : ∃ q : Nat, o.a = q := ⟨o.a.toNat, by omega⟩
  rw [hq, Int.toNat_natCast] at hA
  have hb := below_alloc w (.cells (opA o) 37)
  have L : LocO w.heap.size o (w.alloc (.cells (opA o) 37)) := LocO.new w o
  have apO : Apart G u w.heap.size := h.apart (Nat.le_refl _)
  have R := FM.from hb (h.grow hb).here
  have hsz : w.heap.size < (w.alloc (.cells (opA o) 37)).heap.size := by simp
  clear hb
  go_enter Tryd.func36, Tryd.ntmps36
  go_upto_region 1 with fail
  generalize w.alloc (.cells (opA o) 37) = w1 at *
  have y0 := L.c0
  have y1 := L.c1
  have Hn := has_none w1
  go_upto_region 2 with (first | ((with_reducible refine wpList_built rfl 75 _ rfl (rgA (6) o.r) (by kernel_rfl) ?_); simp only [Act.put, List.setIfInBounds_toArray, List.set_cons_succ, List.set_cons_zero]) | ((with_reducible refine wpList_store_new Hn rfl 75 _ _ rfl (rgA (6) o.r) rfl rfl (rg_inf _ _) (by kernel_rfl) (rg_one _ _) ?_); clear Hn; intro w2 Hn; simp only [Act.put, List.setIfInBounds_toArray, List.set_cons_succ, List.set_cons_zero]))
  have K : w2.heap[w1.heap.size]? = some (.cells (rgA (6) o.r) 75) := Hn.get List.mem_cons_self
  have apR : Apart G u w1.heap.size := h.apart (R.goes.size)
  replace R := R.grow Hn.below
  replace L := L.grow Hn.below
  clear y0 y1 Hn h hsz
  generalize w1.heap.size = t2 at *
  generalize w.heap.size = t1 at *
  refine wp_region_still_tail 6 (by kernel_rfl) (by kernel_rfl) ?_
  replace R := R.grow (below_dr w2)
  replace L := L.grow (below_dr w2)
  replace K := keepRow K (below_dr w2)
  generalize ({ w2 with drawn := w2.drawn + 1 } : World) = w3 at *
  have z2 := R.at_.c2
  have y2 := L.c2
  rw [hq] at y2
  simp only [List.take_succ_cons, List.take_zero, List.drop_succ_cons, List.drop_zero]
  repeat (first | still_step | ((with_reducible refine still_row rfl _ _ rfl rfl (run_reg K) ?_); simp only [Act.put, List.setIfInBounds_toArray, List.set_cons_succ, List.set_cons_zero]) | ((with_reducible refine still_row rfl _ _ rfl rfl A3 ?_); simp only [Act.put, List.setIfInBounds_toArray, List.set_cons_succ, List.set_cons_zero]))
  refine wpStill_nil ?_
  have ka := at_c R.at_ hA hl
  have ki := fun x => isFlag_c (opAt S.laid q) x
  clear z2 y2
  generalize hfl : flagB (opAt S.laid q) = fl at ki
  have e0 : S.setFlag o = if fl = true then S.set 6 o.r o else ((S.drop 6 o.r).put o, S.laid.length) := by unfold Fo.setFlag; rw [hq, Int.toNat_natCast, hfl]
  clear hfl
  cases fl with
  | true =>
    go_upto_region 3 with (first | (go_at_call 27; (with_reducible refine ka.mono ?_); clear ka; rintro e w4 ⟨rfl, B4⟩; dsimp only) | (go_at_call 42; (with_reducible refine (ki _).mono ?_); clear ki; rintro e w5 ⟨rfl, B5⟩; dsimp only))
    replace R := (R.grow B4).grow B5
    replace L := (L.grow B4).grow B5
    replace K := keepRow (keepRow K B4) B5
    have A := L.at_
    have ks := set_c R.at_ o h6 hr hc (by omega) hl
    clear B4 B5
    go_wp2_with (first | ((with_reducible refine wpList_row rfl 75 _ rfl rfl K Tryd.underlying75 rfl (rg_inf _ _) ?_); simp only [Act.put, List.setIfInBounds_toArray, List.set_cons_succ, List.set_cons_zero]) | ((with_reducible refine wpList_load42 rfl _ rfl _ rfl _ A ?_); simp only [Act.put, List.setIfInBounds_toArray, List.set_cons_succ, List.set_cons_zero]) | (go_at_call 35; (with_reducible refine ks.mono ?_); clear ks; rintro e w9 ⟨rfl, u9, R9⟩; dsimp only))
    go_ret
    first | exact ⟨rfl, _, R.then R9⟩ | (rw [e0, if_pos rfl]; exact ⟨rfl, _, R.then R9⟩)
  | false =>
    go_upto_region 4 with (first | (go_at_call 27; (with_reducible refine ka.mono ?_); clear ka; rintro e w4 ⟨rfl, B4⟩; dsimp only) | (go_at_call 42; (with_reducible refine (ki _).mono ?_); clear ki; rintro e w5 ⟨rfl, B5⟩; dsimp only))
    replace R := (R.grow B4).grow B5
    replace L := (L.grow B4).grow B5
    replace K := keepRow (keepRow K B4) B5
    clear B4 B5
    refine wp_region_still_tail 5 (by kernel_rfl) (by kernel_rfl) ?_
    replace R := R.grow (below_dr w5)
    replace L := L.grow (below_dr w5)
    replace K := keepRow K (below_dr w5)
    generalize ({ w5 with drawn := w5.drawn + 1 } : World) = w6 at *
    have z0 := R.at_.c0
    simp only [List.take_succ_cons, List.take_zero, List.drop_succ_cons, List.drop_zero]
    repeat (first | still_step | ((with_reducible refine still_row rfl _ _ rfl rfl (run_reg K) ?_); simp only [Act.put, List.setIfInBounds_toArray, List.set_cons_succ, List.set_cons_zero]) | ((with_reducible refine still_row rfl _ _ rfl rfl A3 ?_); simp only [Act.put, List.setIfInBounds_toArray, List.set_cons_succ, List.set_cons_zero]))
    refine wpStill_nil ?_
    obtain ⟨w7, q1, q2, q3, q4⟩ := R.at_.map.del h6 hr 0
    (with_reducible refine del_run rfl _ _ _ _ rfl (.map (some G.m)) (.agg (rgA 6 o.r)) rfl rfl q1 ?_)
    simp only [Act.put, List.setIfInBounds_toArray, List.set_cons_succ, List.set_cons_zero]
    have R2 := R.at_.turn q2 q3
    replace L := R2.keeps apO L
    replace R := R.then R2
    have L : LocO t1 o w7 := L
    clear z0 q1 q2 q3 q4 K R2
    go_upto_region 5 with fail
    refine wp_region_still_tail 5 (by kernel_rfl) (by kernel_rfl) ?_
    replace R := R.grow (below_dr w7)
    replace L := L.grow (below_dr w7)
    generalize ({ w7 with drawn := w7.drawn + 1 } : World) = w8 at *
    have z1 := R.at_.c1
    have A3 := run_load42 L.at_
    simp only [List.take_succ_cons, List.take_zero, List.drop_succ_cons, List.drop_zero]
    repeat (first | still_step | ((with_reducible refine still_row rfl _ _ rfl rfl (run_reg K) ?_); simp only [Act.put, List.setIfInBounds_toArray, List.set_cons_succ, List.set_cons_zero]) | ((with_reducible refine still_row rfl _ _ rfl rfl A3 ?_); simp only [Act.put, List.setIfInBounds_toArray, List.set_cons_succ, List.set_cons_zero]))
    refine wpStill_nil ?_
    have kp := put_c R.at_ o (by first | exact hl | simpa using hl)
    clear z1 A3
    go_wp2_with (go_at_call 26; (with_reducible refine kp.mono ?_); clear kp; rintro e w9 ⟨rfl, u9, R9⟩; dsimp only)
    go_ret
    first | exact ⟨rfl, _, (R.then R9).mono (Nat.le_succ _)⟩ | (rw [e0, if_neg (by decide)]; exact ⟨rfl, _, (R.then R9).mono (Nat.le_succ _)⟩)
end
end Go.Proofs.YtilhjbhhgpoajaaDoor
