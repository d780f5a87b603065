/- Two blocks compared. -/
import Derived.Test.YtilbnjldfgofmabXw
import Derived.StillTail
import Derived.StillTailTactics
namespace Go.Proofs.Ytilbnjldfgofmab
open Go.RowKit
set_option linter.unusedVariables false
set_option linter.unusedSimpArgs false
set_option maxRecDepth 8000

theorem still_row {ops : Array Oper} {rest : List Oper} {o : Oper} {a : Act} {w : World} {Q : Act → Prop} (hg : Region.wanted o (yielded ops a.tmps) = true) (t : TypeId) (x : Operand) (ho : o.op = .load t x) {p : Addr} (hx : a.eval x = .pointer (some p)) {v : Value} (hr : (loadVar t p).run Try.prog w = .ok v w)
    (h : wpStill Try.prog ops w Q rest (a.put o.dst v)) : wpStill Try.prog ops w Q (o :: rest) a := by
  refine wpStill_step fun K hK => ?_
  rw [if_pos hg]
  unfold Oper.still execOp
  simp only [ho, hx, Instr.loadAt, Instr.sureAddr, Sem.run_bind, Sem.run_pure, Result.andThen_ok, hr, Oper.stillUpon_value]
  exact hK _ h
theorem wpList_neqO {ops : Array Oper} {rest : List Oper} {o : Oper} {a : Act} {w : World} {Q : Exit → Act → World → Prop} (hw : Region.wanted o (yielded ops a.tmps) = true) (x y : Operand) (ho : o.op = .binOp .neq 36 x y 36)
    (c d : Opr) (hx : a.eval x = opV c) (hy : a.eval y = opV d) (b : Bool) (hb : decide (c = d) = b) (h : wpList Try.prog ops Q rest (a.put o.dst (.bool (!b))) w) : wpList Try.prog ops Q (o :: rest) a w := by
  refine BigFrame.wpList_want hw fun K hK => ?_
  have he := op_eq c d w
  rw [hb] at he
  unfold Oper.wp execOp
  simp only [ho, hx, hy, Sem.run_bind, run_eqGuard_agg w _ _ _ _ _ _ guard42, Result.andThen_ok, run_neq_struct, he]
  exact hK _ _ h
theorem list_eq_of {l m : List Opr} (hl : l.length = m.length) (h : ∀ j, j < l.length → opAt l j = opAt m j) : l = m := by
  apply List.ext_getElem hl
  intro j h1 h2
  have := h j h1
  unfold opAt at this
  rw [List.getElem?_eq_getElem h1, List.getElem?_eq_getElem h2] at this
  exact this
theorem below_dr' {w x : World} (h : Below w.heap.size w x) : Below w.heap.size w { x with drawn := x.drawn + 1 } := h.trans ((below_dr x).mono h.size)
section
variable {l m : List Opr} {w : World} {v u : Value} {pc words el : Int}
/-- Same's two blocks. -/
structure SmW (w : World) (pc words el : Int) (v u : Value) (l m : List Opr) (b1 b2 : Nat) (x : World) : Prop where
  r1 : x.heap[b1]? = some (.cells (blA pc words el v) 25)
  r2 : x.heap[b2]? = some (.cells (blA pc words el u) 25)
  o1 : Ops x v l
  o2 : Ops x u m
  below : Below w.heap.size w x
theorem SmW.grow {b1 b2 : Nat} {x y : World} (h : SmW w pc words el v u l m b1 b2 x) (hb : Below x.heap.size x y) : SmW w pc words el v u l m b1 b2 y :=
  ⟨keepRow h.r1 hb, keepRow h.r2 hb, h.o1.grow hb, h.o2.grow hb, below_then h.below (Nat.le_refl _) hb⟩
theorem smW_first (O1 : Ops w v l) (O2 : Ops w u m) : SmW w pc words el v u l m w.heap.size (w.heap.size + 1) ((w.alloc (.cells (blA pc words el v) 25)).alloc (.cells (blA pc words el u) 25)) := by
  have hb1 := below_alloc w (.cells (blA pc words el v) 25)
  have hb2 := below_alloc (w.alloc (.cells (blA pc words el v) 25)) (.cells (blA pc words el u) 25)
  refine ⟨keepRow (heap_alloc_new _ _) hb2, ?_, (O1.grow hb1).grow hb2, (O2.grow hb1).grow hb2, below_then hb1 (Nat.le_refl _) hb2⟩
  have := heap_alloc_new (w.alloc (.cells (blA pc words el v) 25)) (.cells (blA pc words el u) 25)
  rw [World.size_alloc] at this; exact this
set_option maxHeartbeats 4000000 in
theorem same_c (O1 : Ops w v l) (O2 : Ops w u m) : Calls Try.prog 8 #[blV pc words el v, blV pc words el u] w fun e w' => e = .returned (.bool (decide (l = m))) ∧ Below w.heap.size w w' := by
  have S0 := smW_first (pc := pc) (words := words) (el := el) O1 O2
  have hm1 := O1.max
  have hm2 := O2.max
  simp only [maxLen] at hm1 hm2
  obtain ⟨a1, c1, rfl⟩ := O1.len
  obtain ⟨a2, c2, rfl⟩ := O2.len
  clear O1 O2
  go_enter Try.func8, Try.ntmps8
  go_upto_region 1 with fail
  generalize (w.alloc (.cells (blA pc words el (.slice a1 l.length c1)) 25)).alloc (.cells (blA pc words el (.slice a2 m.length c2)) 25) = x1 at *
  generalize w.heap.size + 1 = b2 at *
  generalize hb1 : w.heap.size = b1 at S0
  replace hb1 := show Hid _ from hb1
  have z10 : x1.cell? ⟨b1, 0, none⟩ = some (vU pc) := by rw [cell_of_row _ _ _ _ _ _ S0.r1]; rfl
  have z11 : x1.cell? ⟨b1, 1, none⟩ = some (vI words) := by rw [cell_of_row _ _ _ _ _ _ S0.r1]; rfl
  have z12 : x1.cell? ⟨b1, 2, none⟩ = some (vI el) := by rw [cell_of_row _ _ _ _ _ _ S0.r1]; rfl
  have z13 : x1.cell? ⟨b1, 3, none⟩ = some (.slice a1 l.length c1) := by rw [cell_of_row _ _ _ _ _ _ S0.r1]; rfl
  have z20 : x1.cell? ⟨b2, 0, none⟩ = some (vU pc) := by rw [cell_of_row _ _ _ _ _ _ S0.r2]; rfl
  have z21 : x1.cell? ⟨b2, 1, none⟩ = some (vI words) := by rw [cell_of_row _ _ _ _ _ _ S0.r2]; rfl
  have z22 : x1.cell? ⟨b2, 2, none⟩ = some (vI el) := by rw [cell_of_row _ _ _ _ _ _ S0.r2]; rfl
  have z23 : x1.cell? ⟨b2, 3, none⟩ = some (.slice a2 m.length c2) := by rw [cell_of_row _ _ _ _ _ _ S0.r2]; rfl
  by_cases hl : l.length = m.length
  · have hb : (((l.length : Nat) : Int) != (m.length : Int)) = false := by rw [hl]; simp
    replace hl := show Hid _ from hl
    go_upto_region 3 with fail
    clear z10 z11 z12 z13 z20 z21 z22 z23
    replace hl := hl.out
    have E0 : Hid (∀ j, j < 0 → opAt l j = opAt m j) := fun j h => absurd h (by omega)
    replace hl := show Hid _ from hl
    go_upto_region 4 with fail
    go_loopw [5] (fun s5 wr => ∃ i : Nat, s5 = .int .i64 i ∧ i ≤ l.length ∧ SmW w pc words el (.slice a1 l.length c1) (.slice a2 m.length c2) l m b1 b2 wr ∧ Hid (∀ j, j < i → opAt l j = opAt m j)) (fun s5 _ => l.length - (intOf s5).toNat)
    case atStart => exact ⟨0, rfl, Nat.zero_le _, S0, E0⟩
    case round =>
      clear S0
      obtain ⟨i, rfl, hi, S, hE⟩ := hrel
      clear E0
      have z13 : wr.cell? ⟨b1, 3, none⟩ = some (.slice a1 l.length c1) := by rw [cell_of_row _ _ _ _ _ _ S.r1]; rfl
      by_cases hlt : (i : Int) < l.length
      · have hil : i < l.length := by omega
        have hlt2 : (i : Int) < m.length := by have := hl.out; omega
        obtain ⟨ra, ca, e1, h1⟩ := S.o1.cell (by omega)
        cases e1
        obtain ⟨rb, cb, e2, h2⟩ := S.o2.cell (by omega)
        cases e2
        have A1 := h1 i _ (opAt_some hil)
        have A2 := h2 i _ (opAt_some (by omega))
        clear h1 h2
        go_upto_region 6 with fail
        clear z13
        refine wp_region_still_tail 10 (by kernel_rfl) (by kernel_rfl) ?_
        replace S := S.grow (below_dr wr)
        replace A1 := run_load42 (A1.grow (below_dr wr))
        replace A2 := run_load42 (A2.grow (below_dr wr))
        generalize ({ wr with drawn := wr.drawn + 1 } : World) = w2 at *
        have z13 : w2.cell? ⟨b1, 3, none⟩ = some (.slice (some ra) l.length c1) := by rw [cell_of_row _ _ _ _ _ _ S.r1]; rfl
        have z23 : w2.cell? ⟨b2, 3, none⟩ = some (.slice (some rb) m.length c2) := by rw [cell_of_row _ _ _ _ _ _ S.r2]; rfl
        simp only [List.take_succ_cons, List.take_zero, List.drop_succ_cons, List.drop_zero]
        repeat (first | still_step | ((with_reducible refine still_row rfl _ _ rfl rfl A1 ?_); simp only [Act.put, List.setIfInBounds_toArray, List.set_cons_succ, List.set_cons_zero]) | ((with_reducible refine still_row rfl _ _ rfl rfl A2 ?_); simp only [Act.put, List.setIfInBounds_toArray, List.set_cons_succ, List.set_cons_zero]))
        refine wpStill_nil ?_
        clear z13 z23 A1 A2
        cases hd : decide (opAt l i = opAt m i) with
        | true =>
          go_wp2_with ((with_reducible refine wpList_neqO rfl _ _ rfl _ _ rfl rfl _ hd ?_); simp only [Act.put, List.setIfInBounds_toArray, List.set_cons_succ, List.set_cons_zero])
          go_roundw
          case rel =>
            refine ⟨i + 1, by go_num, by omega, S, fun j hj => ?_⟩
            rcases Nat.lt_or_ge j i with h | h
            · exact hE.out j h
            · obtain rfl : j = i := by omega
              exact of_decide_eq_true hd
          case measure => simp [intOf]; omega
        | false =>
          have hno : decide (l = m) = false := by
            rw [decide_eq_false_iff_not]
            intro e
            subst e
            exact absurd rfl (of_decide_eq_false hd)
          go_wp2_with ((with_reducible refine wpList_neqO rfl _ _ rfl _ _ rfl rfl _ hd ?_); simp only [Act.put, List.setIfInBounds_toArray, List.set_cons_succ, List.set_cons_zero])
          go_ret
          exact ⟨by first | rfl | (rw [hno]; rfl), S.below⟩
      · have hyes : decide (l = m) = true := decide_eq_true (list_eq_of hl.out (fun j hj => hE.out j (by omega)))
        have B := S.below
        clear hE S
        go_wp2
        go_ret
        exact ⟨by first | rfl | (rw [hyes]; rfl), B⟩
  · have hb : (((l.length : Nat) : Int) != (m.length : Int)) = true := by simp; omega
    have hno : decide (l = m) = false := by
      rw [decide_eq_false_iff_not]
      exact fun e => hl (by rw [e])
    go_wp2
    go_ret
    exact ⟨by first | rfl | (rw [hno]; rfl), S0.below⟩
end
section
variable {pc words el : Int} {l : List Opr} {v : Value} {w : World}
/-- A block in a box of its own. -/
structure Bk (x : World) (b : Nat) (pc words el : Int) (v : Value) (l : List Opr) : Prop where
  r : x.heap[b]? = some (.cells (blA pc words el v) 25)
  ops : Ops x v l
theorem Bk.grow {x y : World} {b : Nat} (h : Bk x b pc words el v l) (hb : Below x.heap.size x y) : Bk y b pc words el v l := ⟨keepRow h.r hb, h.ops.grow hb⟩
theorem Bk.z {x : World} {b : Nat} (h : Bk x b pc words el v l) : x.cell? ⟨b, 3, none⟩ = some v := by rw [cell_of_row _ _ _ _ _ _ h.r]; rfl
theorem Bk.new (O : Ops w v l) : Bk (w.alloc (.cells (blA pc words el v) 25)) w.heap.size pc words el v l := ⟨heap_alloc_new _ _, O.grow (below_alloc _ _)⟩
end
end Go.Proofs.Ytilbnjldfgofmab
