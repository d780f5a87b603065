/- What is asked of a block beside its operations. -/
import Derived.Test.YtilhjbhhgpoajaaDoorId
namespace Go.Proofs.YtilhjbhhgpoajaaDoor
open Go.RowKit
set_option linter.unusedVariables false
set_option linter.unusedSimpArgs false
set_option maxRecDepth 8000

abbrev blA (pc words el : Int) (v : Value) : Array Value := #[vU pc, vI words, vI el, v]
abbrev blV (pc words el : Int) (v : Value) : Value := .agg (blA pc words el v)
theorem stood42 : Tryd.prog.stoodInHeld 37 = false := by kernel_rfl
theorem fields42 : Tryd.prog.underlying 37 = some (.struct (Tryd.prog.fieldsOf 37)) := by rw [Program.fieldsOf, Tryd.underlying37]
theorem guard42 : Tryd.prog.eqGuardType Tryd.prog.depth 37 = false := by kernel_rfl
theorem op_eq (c d : Opr) (w : World) : (Op.equalIn 10000 37 (opV c) (opV d)).run Tryd.prog w = .ok (decide (c = d)) w := by
  rw [run_equalIn_agg w 9999 37 _ _ fields42 stood42]
  obtain ⟨k, r, a, b, o, i⟩ := c
  obtain ⟨k', r', a', b', o', i'⟩ := d
  have e : decide ((⟨k, r, a, b, o, i⟩ : Opr) = ⟨k', r', a', b', o', i'⟩) = (k == k' && (r == r' && (a == a' && (b == b' && (o == o' && (i == i' && true)))))) := by
    rw [Bool.eq_iff_iff]
    simp only [decide_eq_true_eq, Opr.mk.injEq, Bool.and_eq_true, beq_iff_eq, and_true]
  rw [e, show (Tryd.prog.fieldsOf 37).toList = [⟨"Kind", 3, 0, false, "", "", 0⟩, ⟨"R", 3, 1, false, "", "", 8⟩, ⟨"A", 3, 2, false, "", "", 16⟩, ⟨"B", 3, 3, false, "", "", 24⟩, ⟨"Order", 3, 4, false, "", "", 32⟩, ⟨"Imm", 22, 5, false, "", "", 40⟩] by kernel_rfl]
  refine eqField w (by decide) ?_ (eqField w (by decide) ?_ (eqField w (by decide) ?_ (eqField w (by decide) ?_ (eqField w (by decide) ?_ (eqField w (by decide) ?_ (by simp [Op.eqFields]))))))
  · rw [part_c 3 (by decide) (opA ⟨k, r, a, b, o, i⟩) 0 (vI k) w rfl, Result.andThen_ok, part_c 3 (by decide) (opA ⟨k', r', a', b', o', i'⟩) 0 (vI k') w rfl, Result.andThen_ok, run_equalIn_int w 9998 3 .i64 .i64 _ _ Tryd.underlying3]
  · rw [part_c 3 (by decide) (opA ⟨k, r, a, b, o, i⟩) 1 (vI r) w rfl, Result.andThen_ok, part_c 3 (by decide) (opA ⟨k', r', a', b', o', i'⟩) 1 (vI r') w rfl, Result.andThen_ok, run_equalIn_int w 9998 3 .i64 .i64 _ _ Tryd.underlying3]
  · rw [part_c 3 (by decide) (opA ⟨k, r, a, b, o, i⟩) 2 (vI a) w rfl, Result.andThen_ok, part_c 3 (by decide) (opA ⟨k', r', a', b', o', i'⟩) 2 (vI a') w rfl, Result.andThen_ok, run_equalIn_int w 9998 3 .i64 .i64 _ _ Tryd.underlying3]
  · rw [part_c 3 (by decide) (opA ⟨k, r, a, b, o, i⟩) 3 (vI b) w rfl, Result.andThen_ok, part_c 3 (by decide) (opA ⟨k', r', a', b', o', i'⟩) 3 (vI b') w rfl, Result.andThen_ok, run_equalIn_int w 9998 3 .i64 .i64 _ _ Tryd.underlying3]
  · rw [part_c 3 (by decide) (opA ⟨k, r, a, b, o, i⟩) 4 (vI o) w rfl, Result.andThen_ok, part_c 3 (by decide) (opA ⟨k', r', a', b', o', i'⟩) 4 (vI o') w rfl, Result.andThen_ok, run_equalIn_int w 9998 3 .i64 .i64 _ _ Tryd.underlying3]
  · rw [part_c 22 (by decide) (opA ⟨k, r, a, b, o, i⟩) 5 (vU i) w rfl, Result.andThen_ok, part_c 22 (by decide) (opA ⟨k', r', a', b', o', i'⟩) 5 (vU i') w rfl, Result.andThen_ok, run_equalIn_int w 9998 22 .u64 .u64 _ _ Tryd.underlying22]
theorem run_eql42 (c d : Opr) (w : World) : (binOp .eql 37 (opV c) (opV d)).run Tryd.prog w = .ok (.bool (decide (c = d))) w := by
  rw [run_eql_struct, op_eq]; rfl
theorem upon_eql42 {C : World → Prop} {w : World} (c d : Opr) {o : Oper} {a : Act} {x y : Operand} (hC : C w) (ho : o.op = .binOp .eql 37 x y 37 := by rfl) (hx : a.eval x = opV c := by rfl) (hy : a.eval y = opV d := by rfl) : Chn.upon Tryd.prog (fun v w' => v = .bool (decide (c = d)) ∧ C w') w ((execOp a.eval o).run Tryd.prog w) := by
  unfold execOp
  simp only [ho, hx, hy, Sem.run_bind, run_eqGuard_agg w _ _ _ _ _ _ guard42, Result.andThen_ok, run_eql_struct, op_eq]
  exact ⟨rfl, hC⟩
structure HB (w : World) (pc words el : Int) (v : Value) (b : Nat) (x : World) : Prop where
  row : x.heap[b]? = some (.cells (blA pc words el v) 25)
  below : Below w.heap.size w x
theorem HB.grow {w x y : World} {pc words el : Int} {v : Value} {b : Nat} (h : HB w pc words el v b x) (hb : Below x.heap.size x y) : HB w pc words el v b y := ⟨by rw [hb.block _ (lt_of_some h.row)]; exact h.row, below_then h.below (Nat.le_refl _) hb⟩
theorem HB.c0 {w x : World} {pc words el : Int} {v : Value} {b : Nat} (h : HB w pc words el v b x) : x.cell? ⟨b, 0, none⟩ = some (vU pc) := by rw [cell_of_row _ _ _ _ _ _ h.row]; rfl
theorem HB.c3 {w x : World} {pc words el : Int} {v : Value} {b : Nat} (h : HB w pc words el v b x) : x.cell? ⟨b, 3, none⟩ = some v := by rw [cell_of_row _ _ _ _ _ _ h.row]; rfl
theorem head_no {pc words el : Int} {l : List Opr} (h : pc % 4 ≠ 0 ∨ words < 1 ∨ 16 < words ∨ (el ≠ 0 ∧ el ≠ 1) ∨ (l.length : Int) < 1 ∨ 512 < (l.length : Int)) : headB pc words el l = false := by
  unfold headB
  simp only [Bool.and_eq_false_iff, decide_eq_false_iff_not, beq_eq_false_iff_ne, Bool.or_eq_false_iff]
  omega
set_option maxHeartbeats 4000000 in
theorem head_c {w : World} {v : Value} {l : List Opr} (pc words el : Int) (hpc : 0 ≤ pc) (O : Ops w v l) : Calls Tryd.prog 12 #[blV pc words el v] w fun e w' => e = .returned (.bool (headB pc words el l)) ∧ Below w.heap.size w w' := by
  have hb := below_alloc w (.cells (blA pc words el v) 25)
  have O2 := O.grow hb
  obtain ⟨ao, cap, ev⟩ := O.len
  subst ev
  have e4 : pc.tmod 4 = pc % 4 := Int.tmod_eq_emod_of_nonneg hpc
  go_enter Tryd.func12, Tryd.ntmps12
  go_wp2
  all_goals (try subst_vars; try (go_ret; refine ⟨r_bool (head_no ?_).symm, hb⟩; first | omega | (simp_all; done) | (simp_all; omega)))
  · rename_i hl1 hl2
    have hl0 : 0 < l.length := by omega
    obtain ⟨ra, cap', ev', hc⟩ := O2.cell hl0
    cases ev'
    have ho := opAt_some hl0
    generalize hx : opAt l 0 = X at ho
    have A := hc 0 _ ho
    rw [Nat.zero_mul] at A
    clear hc O
    have hst : (fun _ x => OpAt x ra X ∧ HB w pc words 0 (Value.slice (some ra) l.length cap) w.heap.size x) 0 _ := ⟨A.grow (below_dr _), HB.grow ⟨heap_alloc_new _ _, hb⟩ (below_dr _)⟩
    refine Chn.wp_region_chainL (fun _ x => OpAt x ra X ∧ HB w pc words 0 (Value.slice (some ra) l.length cap) w.heap.size x) [] [0, 0, 0, 0, 0, 0, 0, 0, 0] [ptr w.heap.size 3, Value.slice (some ra) l.length cap, .pointer (some ra), opV X, ptr w.heap.size 0, vU pc, opV ⟨14, 0, 0, 0, 0, pc⟩, .bool (decide (X = ⟨14, 0, 0, 0, 0, pc⟩)), .bool (decide (X = ⟨14, 0, 0, 0, 0, pc⟩))] (by kernel_rfl) (by kernel_rfl) (by kernel_rfl) (by kernel_rfl) (by kernel_rfl) hst ?_
    clear hst
    refine ⟨fun j w1 hj hC => by exact Chn.upon_pure hC (fun F hF => by (go_simp <;> exact hF)), ?_⟩
    simp only [Act.put, List.setIfInBounds_toArray, List.set_cons_succ, List.set_cons_zero]
    refine ⟨fun j w1 hj hC => by
      have z := hC.2.c3
      exact Chn.upon_pure hC (fun F hF => by (go_simp <;> exact hF)), ?_⟩
    simp only [Act.put, List.setIfInBounds_toArray, List.set_cons_succ, List.set_cons_zero]
    refine ⟨fun j w1 hj hC => by exact Chn.upon_pure hC (fun F hF => by (go_simp <;> exact hF)), ?_⟩
    simp only [Act.put, List.setIfInBounds_toArray, List.set_cons_succ, List.set_cons_zero]
    refine ⟨fun j w1 hj hC => by
      exact upon_load42 hC.1 hC, ?_⟩
    simp only [Act.put, List.setIfInBounds_toArray, List.set_cons_succ, List.set_cons_zero]
    refine ⟨fun j w1 hj hC => by exact Chn.upon_pure hC (fun F hF => by (go_simp <;> exact hF)), ?_⟩
    simp only [Act.put, List.setIfInBounds_toArray, List.set_cons_succ, List.set_cons_zero]
    refine ⟨fun j w1 hj hC => by
      have z := hC.2.c0
      exact Chn.upon_pure hC (fun F hF => by (go_simp <;> exact hF)), ?_⟩
    simp only [Act.put, List.setIfInBounds_toArray, List.set_cons_succ, List.set_cons_zero]
    refine ⟨fun j w1 hj hC => by exact Chn.upon_pure hC (fun F hF => by (go_simp <;> exact hF)), ?_⟩
    simp only [Act.put, List.setIfInBounds_toArray, List.set_cons_succ, List.set_cons_zero]
    refine ⟨fun j w1 hj hC => by
      exact upon_eql42 _ _ hC, ?_⟩
    simp only [Act.put, List.setIfInBounds_toArray, List.set_cons_succ, List.set_cons_zero]
    refine ⟨fun j w1 hj hC => by exact Chn.upon_pure hC (fun F hF => by (go_simp <;> exact hF)), ?_⟩
    simp only [Act.put, List.setIfInBounds_toArray, List.set_cons_succ, List.set_cons_zero]
    intro w5 hC
    go_wp2
    go_ret
    refine ⟨r_bool ?_, hC.2.below⟩
    unfold headB
    rw [hx]
    simp_all
    try omega
  · rename_i hl1 hl2
    have hl0 : 0 < l.length := by omega
    obtain ⟨ra, cap', ev', hc⟩ := O2.cell hl0
    cases ev'
    have ho := opAt_some hl0
    generalize hx : opAt l 0 = X at ho
    have A := hc 0 _ ho
    rw [Nat.zero_mul] at A
    clear hc O
    have hst : (fun _ x => OpAt x ra X ∧ HB w pc words el (Value.slice (some ra) l.length cap) w.heap.size x) 0 _ := ⟨A.grow (below_dr _), HB.grow ⟨heap_alloc_new _ _, hb⟩ (below_dr _)⟩
    refine Chn.wp_region_chainL (fun _ x => OpAt x ra X ∧ HB w pc words el (Value.slice (some ra) l.length cap) w.heap.size x) [] [0, 0, 0, 0, 0, 0, 0, 0, 0] [ptr w.heap.size 3, Value.slice (some ra) l.length cap, .pointer (some ra), opV X, ptr w.heap.size 0, vU pc, opV ⟨14, 0, 0, 0, 0, pc⟩, .bool (decide (X = ⟨14, 0, 0, 0, 0, pc⟩)), .bool (decide (X = ⟨14, 0, 0, 0, 0, pc⟩))] (by kernel_rfl) (by kernel_rfl) (by kernel_rfl) (by kernel_rfl) (by kernel_rfl) hst ?_
    clear hst
    refine ⟨fun j w1 hj hC => by exact Chn.upon_pure hC (fun F hF => by (go_simp <;> exact hF)), ?_⟩
    simp only [Act.put, List.setIfInBounds_toArray, List.set_cons_succ, List.set_cons_zero]
    refine ⟨fun j w1 hj hC => by
      have z := hC.2.c3
      exact Chn.upon_pure hC (fun F hF => by (go_simp <;> exact hF)), ?_⟩
    simp only [Act.put, List.setIfInBounds_toArray, List.set_cons_succ, List.set_cons_zero]
    refine ⟨fun j w1 hj hC => by exact Chn.upon_pure hC (fun F hF => by (go_simp <;> exact hF)), ?_⟩
    simp only [Act.put, List.setIfInBounds_toArray, List.set_cons_succ, List.set_cons_zero]
    refine ⟨fun j w1 hj hC => by
      exact upon_load42 hC.1 hC, ?_⟩
    simp only [Act.put, List.setIfInBounds_toArray, List.set_cons_succ, List.set_cons_zero]
    refine ⟨fun j w1 hj hC => by exact Chn.upon_pure hC (fun F hF => by (go_simp <;> exact hF)), ?_⟩
    simp only [Act.put, List.setIfInBounds_toArray, List.set_cons_succ, List.set_cons_zero]
    refine ⟨fun j w1 hj hC => by
      have z := hC.2.c0
      exact Chn.upon_pure hC (fun F hF => by (go_simp <;> exact hF)), ?_⟩
    simp only [Act.put, List.setIfInBounds_toArray, List.set_cons_succ, List.set_cons_zero]
    refine ⟨fun j w1 hj hC => by exact Chn.upon_pure hC (fun F hF => by (go_simp <;> exact hF)), ?_⟩
    simp only [Act.put, List.setIfInBounds_toArray, List.set_cons_succ, List.set_cons_zero]
    refine ⟨fun j w1 hj hC => by
      exact upon_eql42 _ _ hC, ?_⟩
    simp only [Act.put, List.setIfInBounds_toArray, List.set_cons_succ, List.set_cons_zero]
    refine ⟨fun j w1 hj hC => by exact Chn.upon_pure hC (fun F hF => by (go_simp <;> exact hF)), ?_⟩
    simp only [Act.put, List.setIfInBounds_toArray, List.set_cons_succ, List.set_cons_zero]
    intro w5 hC
    go_wp2
    go_ret
    refine ⟨r_bool ?_, hC.2.below⟩
    unfold headB
    rw [hx]
    simp_all
    try omega
end Go.Proofs.YtilhjbhhgpoajaaDoor
