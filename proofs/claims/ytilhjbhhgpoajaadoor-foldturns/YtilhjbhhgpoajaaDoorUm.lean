/- Two rows of operations compared. -/
import Derived.Test.YtilhjbhhgpoajaaDoorUl
namespace Go.Proofs.YtilhjbhhgpoajaaDoor
open Go.RowKit
set_option linter.unusedVariables false
set_option linter.unusedSimpArgs false
set_option maxRecDepth 8000

theorem wpList_neqO {ops : Array Oper} {rest : List Oper} {o : Oper} {a : Act} {w : World} {Q : Exit → Act → World → Prop} (hw : Region.wanted o (yielded ops a.tmps) = true) (x y : Operand) (ho : o.op = .binOp .neq 37 x y 37)
    (c d : Opr) (hx : a.eval x = opV c) (hy : a.eval y = opV d) (b : Bool) (hb : decide (c = d) = b) (h : wpList Tryd.prog ops Q rest (a.put o.dst (.bool (!b))) w) : wpList Tryd.prog ops Q (o :: rest) a w := by
  refine BigFrame.wpList_want hw fun K hK => ?_
  have he := op_eq c d w
  rw [hb] at he
  unfold Oper.wp execOp
  simp only [ho, hx, hy, Sem.run_bind, run_eqGuard_agg w _ _ _ _ _ _ guard42, Result.andThen_ok, run_neq_struct, he]
  exact hK _ _ h
theorem list_eq_of {l m : List Opr} (hl : l.length = m.length) (h : ∀ j, j < l.length → opAt l j = opAt m j) : l = m := by
  apply List.ext_getElem hl
  intro j h1 h2
  have := h j h1
  unfold opAt at this
  rw [List.getElem?_eq_getElem h1, List.getElem?_eq_getElem h2] at this
  exact this
theorem below_dr' {w x : World} (h : Below w.heap.size w x) : Below w.heap.size w { x with drawn := x.drawn + 1 } := h.trans ((below_dr x).mono h.size)
section
variable {l m : List Opr} {w : World} {v u : Value}
set_option maxHeartbeats 4000000 in
theorem equal_c (O1 : Ops w v l) (O2 : Ops w u m) : Calls Tryd.prog 15 #[v, u] w fun e w' => e = .returned (.bool (decide (l = m))) ∧ Below w.heap.size w w' := by
  have hm1 := O1.max
  have hm2 := O2.max
  simp only [maxLen] at hm1 hm2
  obtain ⟨a1, c1, rfl⟩ := O1.len
  obtain ⟨a2, c2, rfl⟩ := O2.len
  by_cases hl : l.length = m.length
  · have hb : (((l.length : Nat) : Int) != (m.length : Int)) = false := by rw [hl]; simp
    have E0 : Hid (Below w.heap.size w w ∧ ∀ j, j < 0 → opAt l j = opAt m j) := ⟨Below.refl _ _, fun j h => absurd h (by omega)⟩
    go_enter Tryd.func15, Tryd.ntmps15
    go_upto_region 3 with fail
    go_wp2
    go_loopw [13] (fun s13 wr => ∃ i : Nat, s13 = .int .i64 i ∧ i ≤ l.length ∧ Hid (Below w.heap.size w wr ∧ ∀ j, j < i → opAt l j = opAt m j)) (fun s13 _ => l.length - (intOf s13).toNat)
    case atStart => exact ⟨0, rfl, Nat.zero_le _, E0⟩
    case round =>
      obtain ⟨i, rfl, hi, hE⟩ := hrel
      clear E0
      by_cases hlt : (i : Int) < l.length
      · have hil : i < l.length := by omega
        have hlt2 : (i : Int) < m.length := by omega
        obtain ⟨ra, ca, e1, h1⟩ := O1.cell (by omega)
        cases e1
        obtain ⟨rb, cb, e2, h2⟩ := O2.cell (by omega)
        cases e2
        have A1 := (h1 i _ (opAt_some hil)).grow hE.out.1
        have A2 := (h2 i _ (opAt_some (by omega))).grow hE.out.1
        replace hl := show Hid _ from hl
        go_upto_region 6 with fail
        refine wp_region_still_tail 8 (by kernel_rfl) (by kernel_rfl) ?_
        replace A1 := run_load42 (A1.grow (below_dr wr))
        replace A2 := run_load42 (A2.grow (below_dr wr))
        have hE2 : Hid (Below w.heap.size w { wr with drawn := wr.drawn + 1 } ∧ ∀ j, j < i → opAt l j = opAt m j) := ⟨below_dr' hE.out.1, hE.out.2⟩
        clear hE
        generalize ({ wr with drawn := wr.drawn + 1 } : World) = w2 at *
        simp only [List.take_succ_cons, List.take_zero, List.drop_succ_cons, List.drop_zero]
        repeat (first | still_step | ((with_reducible refine still_row rfl _ _ rfl rfl A1 ?_); simp only [Act.put, List.setIfInBounds_toArray, List.set_cons_succ, List.set_cons_zero]) | ((with_reducible refine still_row rfl _ _ rfl rfl A2 ?_); simp only [Act.put, List.setIfInBounds_toArray, List.set_cons_succ, List.set_cons_zero]))
        refine wpStill_nil ?_
        cases hd : decide (opAt l i = opAt m i) with
        | true =>
          go_wp2_with ((with_reducible refine wpList_neqO rfl _ _ rfl _ _ rfl rfl _ hd ?_); simp only [Act.put, List.setIfInBounds_toArray, List.set_cons_succ, List.set_cons_zero])
          go_roundw
          case rel =>
            refine ⟨i + 1, by go_num, by omega, hE2.out.1, fun j hj => ?_⟩
            rcases Nat.lt_or_ge j i with h | h
            · exact hE2.out.2 j h
            · obtain rfl : j = i := by omega
              exact of_decide_eq_true hd
          case measure => simp [intOf]; omega
        | false =>
          have hno : decide (l = m) = false := by
            rw [decide_eq_false_iff_not]
            intro e
            subst e
            exact absurd rfl (of_decide_eq_false hd)
          go_wp2_with ((with_reducible refine wpList_neqO rfl _ _ rfl _ _ rfl rfl _ hd ?_); simp only [Act.put, List.setIfInBounds_toArray, List.set_cons_succ, List.set_cons_zero])
          go_ret
          exact ⟨by first | rfl | (rw [hno]; rfl), hE2.out.1⟩
      · have hyes : decide (l = m) = true := decide_eq_true (list_eq_of hl (fun j hj => hE.out.2 j (by omega)))
        have B := hE.out.1
        clear hE
        go_wp2
        go_ret
        exact ⟨by first | rfl | (rw [hyes]; rfl), B⟩
  · have hb : (((l.length : Nat) : Int) != (m.length : Int)) = true := by simp; omega
    have hno : decide (l = m) = false := by
      rw [decide_eq_false_iff_not]
      exact fun e => hl (by rw [e])
    go_enter Tryd.func15, Tryd.ntmps15
    go_wp2
    go_ret
    exact ⟨by first | rfl | (rw [hno]; rfl), Below.refl _ _⟩
end
end Go.Proofs.YtilhjbhhgpoajaaDoor
