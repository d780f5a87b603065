/- What is known: setFlag. -/
import Derived.Test.YtilhjbhhgpoajaaUe
namespace Go.Proofs.Ytilhjbhhgpoajaa
open Go.RowKit
set_option linter.unusedVariables false
set_option linter.unusedSimpArgs false
set_option maxRecDepth 8000

section
variable {G : Fh} {c : Nat} {S : Fo} {u : Value} {w : World}
set_option maxHeartbeats 2000000 in
theorem setFlag_c (h : FoAt G c S u w) (o : Opr) (hr : SmallI o.r) (hc : c < 100000) (hl : S.laid.length ≤ 100000) (h0 : 0 ≤ o.a) (hA : o.a.toNat < S.laid.length) : Calls Try.prog 66 #[ptr G.p 0, opV o] w fun e w' => e = .returned (vI (S.setFlag o).2) ∧ FT G (c + 1) (S.setFlag o).1 u w w' := by
  have h6 : SmallI 6 := ⟨by decide, by decide⟩
  obtain ⟨q, hq⟩ : ∃ q : Nat, o.a = q := ⟨o.a.toNat, by omega⟩
  rw [hq, Int.toNat_natCast] at hA
  have hb := below_alloc w (.cells (opA o) 45)
  have L : LocO w.heap.size o (w.alloc (.cells (opA o) 45)) := LocO.new w o
  have apO : Apart G u w.heap.size := h.apart (Nat.le_refl _)
  have R := FM.from hb (h.grow hb).here
  have hsz : w.heap.size < (w.alloc (.cells (opA o) 45)).heap.size := by simp
  clear hb
  go_enter Try.func66, Try.ntmps66
  go_upto_region 1 with fail
  generalize w.alloc (.cells (opA o) 45) = w1 at *
  have y0 := L.c0
  have y1 := L.c1
  have Hn := has_none w1
  go_upto_region 2 with (first | ((with_reducible refine wpList_built rfl 93 _ rfl (rgA (6) o.r) (by kernel_rfl) ?_); simp only [Act.put, List.setIfInBounds_toArray, List.set_cons_succ, List.set_cons_zero]) | ((with_reducible refine wpList_store_new Hn rfl 93 _ _ rfl (rgA (6) o.r) rfl rfl (rg_inf _ _) (by kernel_rfl) (rg_one _ _) ?_); clear Hn; intro w2 Hn; simp only [Act.put, List.setIfInBounds_toArray, List.set_cons_succ, List.set_cons_zero]))
  have K : w2.heap[w1.heap.size]? = some (.cells (rgA (6) o.r) 93) := Hn.get List.mem_cons_self
  have apR : Apart G u w1.heap.size := h.apart (R.goes.size)
  replace R := R.grow Hn.below
  replace L := L.grow Hn.below
  clear y0 y1 Hn h hsz
  generalize w1.heap.size = t2 at *
  generalize w.heap.size = t1 at *
  refine wp_region_still_tail 6 (by kernel_rfl) (by kernel_rfl) ?_
  replace R := R.grow (below_dr w2)
  replace L := L.grow (below_dr w2)
  replace K := keepRow K (below_dr w2)
  generalize ({ w2 with drawn := w2.drawn + 1 } : World) = w3 at *
  have z2 := R.at_.c2
  have y2 := L.c2
  rw [hq] at y2
  simp only [List.take_succ_cons, List.take_zero, List.drop_succ_cons, List.drop_zero]
  repeat (first | still_step | ((with_reducible refine still_row rfl _ _ rfl rfl (run_reg K) ?_); simp only [Act.put, List.setIfInBounds_toArray, List.set_cons_succ, List.set_cons_zero]) | ((with_reducible refine still_row rfl _ _ rfl rfl A3 ?_); simp only [Act.put, List.setIfInBounds_toArray, List.set_cons_succ, List.set_cons_zero]))
  refine wpStill_nil ?_
  have ka := at_c R.at_ hA hl
  have ki := fun x => isFlag_c (opAt S.laid q) x
  clear z2 y2
  generalize hfl : flagB (opAt S.laid q) = fl at ki
  have e0 : S.setFlag o = if fl = true then S.set 6 o.r o else ((S.drop 6 o.r).put o, S.laid.length) := by unfold Fo.setFlag; rw [hq, Int.toNat_natCast, hfl]
  clear hfl
  cases fl with
  | true =>
    go_upto_region 3 with (first | (go_at_call 37; (with_reducible refine ka.mono ?_); clear ka; rintro e w4 ⟨rfl, B4⟩; dsimp only) | (go_at_call 77; (with_reducible refine (ki _).mono ?_); clear ki; rintro e w5 ⟨rfl, B5⟩; dsimp only))
    replace R := (R.grow B4).grow B5
    replace L := (L.grow B4).grow B5
    replace K := keepRow (keepRow K B4) B5
    have A := L.at_
    have ks := set_c R.at_ o h6 hr hc (by omega) hl
    clear B4 B5
    go_wp2_with (first | ((with_reducible refine wpList_row rfl 93 _ rfl rfl K Try.underlying93 rfl (rg_inf _ _) ?_); simp only [Act.put, List.setIfInBounds_toArray, List.set_cons_succ, List.set_cons_zero]) | ((with_reducible refine wpList_load42 rfl _ rfl _ rfl _ A ?_); simp only [Act.put, List.setIfInBounds_toArray, List.set_cons_succ, List.set_cons_zero]) | (go_at_call 65; (with_reducible refine ks.mono ?_); clear ks; rintro e w9 ⟨rfl, u9, R9⟩; dsimp only))
    go_ret
    first | exact ⟨rfl, _, R.then R9⟩ | (rw [e0, if_pos rfl]; exact ⟨rfl, _, R.then R9⟩)
  | false =>
    go_upto_region 4 with (first | (go_at_call 37; (with_reducible refine ka.mono ?_); clear ka; rintro e w4 ⟨rfl, B4⟩; dsimp only) | (go_at_call 77; (with_reducible refine (ki _).mono ?_); clear ki; rintro e w5 ⟨rfl, B5⟩; dsimp only))
    replace R := (R.grow B4).grow B5
    replace L := (L.grow B4).grow B5
    replace K := keepRow (keepRow K B4) B5
    clear B4 B5
    refine wp_region_still_tail 5 (by kernel_rfl) (by kernel_rfl) ?_
    replace R := R.grow (below_dr w5)
    replace L := L.grow (below_dr w5)
    replace K := keepRow K (below_dr w5)
    generalize ({ w5 with drawn := w5.drawn + 1 } : World) = w6 at *
    have z0 := R.at_.c0
    simp only [List.take_succ_cons, List.take_zero, List.drop_succ_cons, List.drop_zero]
    repeat (first | still_step | ((with_reducible refine still_row rfl _ _ rfl rfl (run_reg K) ?_); simp only [Act.put, List.setIfInBounds_toArray, List.set_cons_succ, List.set_cons_zero]) | ((with_reducible refine still_row rfl _ _ rfl rfl A3 ?_); simp only [Act.put, List.setIfInBounds_toArray, List.set_cons_succ, List.set_cons_zero]))
    refine wpStill_nil ?_
    obtain ⟨w7, q1, q2, q3, q4⟩ := R.at_.map.del h6 hr 0
    (with_reducible refine del_run rfl _ _ _ _ rfl (.map (some G.m)) (.agg (rgA 6 o.r)) rfl rfl q1 ?_)
    simp only [Act.put, List.setIfInBounds_toArray, List.set_cons_succ, List.set_cons_zero]
    have R2 := R.at_.turn q2 q3
    replace L := R2.keeps apO L
    replace R := R.then R2
    have L : LocO t1 o w7 := L
    clear z0 q1 q2 q3 q4 K R2
    go_upto_region 5 with fail
    refine wp_region_still_tail 5 (by kernel_rfl) (by kernel_rfl) ?_
    replace R := R.grow (below_dr w7)
    replace L := L.grow (below_dr w7)
    generalize ({ w7 with drawn := w7.drawn + 1 } : World) = w8 at *
    have z1 := R.at_.c1
    have A3 := run_load42 L.at_
    simp only [List.take_succ_cons, List.take_zero, List.drop_succ_cons, List.drop_zero]
    repeat (first | still_step | ((with_reducible refine still_row rfl _ _ rfl rfl (run_reg K) ?_); simp only [Act.put, List.setIfInBounds_toArray, List.set_cons_succ, List.set_cons_zero]) | ((with_reducible refine still_row rfl _ _ rfl rfl A3 ?_); simp only [Act.put, List.setIfInBounds_toArray, List.set_cons_succ, List.set_cons_zero]))
    refine wpStill_nil ?_
    have kp := put_c R.at_ o (by first | exact hl | simpa using hl)
    clear z1 A3
    go_wp2_with (go_at_call 36; (with_reducible refine kp.mono ?_); clear kp; rintro e w9 ⟨rfl, u9, R9⟩; dsimp only)
    go_ret
    first | exact ⟨rfl, _, (R.then R9).mono (Nat.le_succ _)⟩ | (rw [e0, if_neg (by decide)]; exact ⟨rfl, _, (R.then R9).mono (Nat.le_succ _)⟩)
end
end Go.Proofs.Ytilhjbhhgpoajaa
