/- The example's block; what is right of operations; wants compared. -/
import Derived.Test.YtioeiogcejikbaaDoorJl
namespace Go.Proofs.YtioeiogcejikbaaDoor
open Go.RowKit
set_option linter.unusedVariables false
set_option linter.unusedSimpArgs false
set_option maxRecDepth 8000

def exL : List Opr := [⟨14, 0, 0, 0, 0, 64⟩, ⟨2, 1, 0, 0, 0, 0⟩, ⟨1, 0, 0, 0, 0, 0⟩, ⟨8, 1, 1, 2, 0, 0⟩, ⟨9, 0, 3, 0, 0, 0⟩, ⟨3, 0, 4, 0, 0, 0⟩, ⟨16, 0, 0, 0, 0, 68⟩]
def exA : Array Value := #[vI 14, vI 0, vI 0, vI 0, vI 0, vU 64, vI 2, vI 1, vI 0, vI 0, vI 0, vU 0, vI 1, vI 0, vI 0, vI 0, vI 0, vU 0, vI 8, vI 1, vI 1, vI 2, vI 0, vU 0, vI 9, vI 0, vI 3, vI 0, vI 0, vU 0, vI 3, vI 0, vI 4, vI 0, vI 0, vU 0, vI 16, vI 0, vI 0, vI 0, vI 0, vU 68]
theorem run_ex23 (w : World) : (Instr.buildSlice 23 7 #[(0, .agg #[vI 14, vI 0, vI 0, vI 0, vI 0, vU 64]), (1, .agg #[vI 2, vI 1, vI 0, vI 0, vI 0, vU 0]), (2, .agg #[vI 1, vI 0, vI 0, vI 0, vI 0, vU 0]), (3, .agg #[vI 8, vI 1, vI 1, vI 2, vI 0, vU 0]), (4, .agg #[vI 9, vI 0, vI 3, vI 0, vI 0, vU 0]), (5, .agg #[vI 3, vI 0, vI 4, vI 0, vI 0, vU 0]), (6, .agg #[vI 16, vI 0, vI 0, vI 0, vI 0, vU 68])]).run Tryd.prog w = .ok (.slice (some ⟨w.heap.size, 0, none⟩) 7 7) (w.alloc (.cells exA 42)) := by
  obtain ⟨i, hi, hz, hs, hby⟩ := info_parts info42
  exact run_buildSlice (P := Tryd.prog) w 23 42 7 _ _ i (opV nilO) Tryd.underlying23 hi hz (by rw [hs]; decide) (by rw [hs]; decide) (by rw [hs]; kernel_rfl)
theorem wpList_ex23 {ops : Array Oper} {rest : List Oper} {p : Oper} {a : Act} {w : World} {Q : Exit → Act → World → Prop} (hg : p.guard = none) (x0 x1 x2 x3 x4 x5 x6 : Operand) (ho : p.op = .buildSlice 23 7 #[(0, x0), (1, x1), (2, x2), (3, x3), (4, x4), (5, x5), (6, x6)])
    (h0 : a.eval x0 = .agg #[vI 14, vI 0, vI 0, vI 0, vI 0, vU 64])
    (h1 : a.eval x1 = .agg #[vI 2, vI 1, vI 0, vI 0, vI 0, vU 0])
    (h2 : a.eval x2 = .agg #[vI 1, vI 0, vI 0, vI 0, vI 0, vU 0])
    (h3 : a.eval x3 = .agg #[vI 8, vI 1, vI 1, vI 2, vI 0, vU 0])
    (h4 : a.eval x4 = .agg #[vI 9, vI 0, vI 3, vI 0, vI 0, vU 0])
    (h5 : a.eval x5 = .agg #[vI 3, vI 0, vI 4, vI 0, vI 0, vU 0])
    (h6 : a.eval x6 = .agg #[vI 16, vI 0, vI 0, vI 0, vI 0, vU 68])
    (h : wpList Tryd.prog ops Q rest (a.put p.dst (.slice (some ⟨w.heap.size, 0, none⟩) 7 7)) (w.alloc (.cells exA 42))) : wpList Tryd.prog ops Q (p :: rest) a w :=
  wpList_plain hg fun _ hK => by
    unfold Oper.wp execOp
    simp only [ho, Sem.run_bind, List.map_toArray, List.map_cons, List.map_nil, h0, h1, h2, h3, h4, h5, h6, run_ex23, Result.andThen_ok]
    exact hK _ _ h
theorem ex_ops {w : World} {b : Nat} (h : w.heap[b]? = some (.cells exA 42)) : Ops w (.slice (some ⟨b, 0, none⟩) 7 7) exL := by
  have hc : ∀ j, w.cell? ⟨b, j, none⟩ = exA[j]? := fun j => by rw [cell_of_row _ _ _ _ _ _ h]
  refine ⟨⟨_, _, rfl⟩, by decide, fun _ => ⟨_, _, rfl, fun i o ho => ?_⟩⟩
  rw [Addr.add_mid, Nat.zero_add]
  match i, ho with
  | 0, ho => cases ho; exact ⟨lt_of_some h, hc 0, hc 1, hc 2, hc 3, hc 4, hc 5⟩
  | 1, ho => cases ho; exact ⟨lt_of_some h, hc 6, hc 7, hc 8, hc 9, hc 10, hc 11⟩
  | 2, ho => cases ho; exact ⟨lt_of_some h, hc 12, hc 13, hc 14, hc 15, hc 16, hc 17⟩
  | 3, ho => cases ho; exact ⟨lt_of_some h, hc 18, hc 19, hc 20, hc 21, hc 22, hc 23⟩
  | 4, ho => cases ho; exact ⟨lt_of_some h, hc 24, hc 25, hc 26, hc 27, hc 28, hc 29⟩
  | 5, ho => cases ho; exact ⟨lt_of_some h, hc 30, hc 31, hc 32, hc 33, hc 34, hc 35⟩
  | 6, ho => cases ho; exact ⟨lt_of_some h, hc 36, hc 37, hc 38, hc 39, hc 40, hc 41⟩
  | i + 7, ho => simp [exL] at ho
def LoadR (w : World) (u : Value) (x : World) : Prop := ∃ b, u = blV 64 1 1 (.slice (some ⟨b, 0, none⟩) 7 7) ∧ x.heap[b]? = some (.cells exA 42) ∧ w.heap.size ≤ b
theorem bl_z (w : World) : True := trivial
theorem back25 {fn : Func} {p : Tmp} {pc words el : Int} {v : Value} (h : fn.results = #[.cell p 25]) (tmps : Array Value) (w : World) (g : Nat) (hp : tmps.getD p undef = ptr g 0) (H : w.heap[g]? = some (.cells (blA pc words el v) 25)) : (results fn tmps).run Tryd.prog w = .ok (blV pc words el v) w :=
  results_cell_row h tmps w g 25 (blA pc words el v) (0, 0) _ hp H Tryd.underlying25 rfl (bl_inf _ _ _ _)
theorem bl_sz (v u : Value) : (blA 0 0 0 v).size = (blA 64 1 1 u).size := rfl
theorem sl_one (b n m : Nat) : (Value.slice (some ⟨b, 0, none⟩) n m).oneCell' = true := rfl
set_option maxHeartbeats 2000000 in
theorem load_c (w : World) : Calls Tryd.prog 14 #[] w fun e w' => ∃ u, e = .returned u ∧ LoadR w u w' ∧ Below w.heap.size w w' := by
  have hrow : (w.alloc (.cells (blA 0 0 0 (.slice none 0 0)) 25)).heap[w.heap.size]? = some (.cells (blA 0 0 0 (.slice none 0 0)) 25) := heap_alloc_new _ _
  have hb := below_alloc w (.cells (blA 0 0 0 (.slice none 0 0)) 25)
  go_enter Tryd.func14, Tryd.ntmps14
  go_upto_region 1 with fail
  generalize w.alloc (.cells (blA 0 0 0 (.slice none 0 0)) 25) = w1 at *
  have hr2 : (w1.alloc (.cells exA 42)).heap[w.heap.size]? = some (.cells (blA 0 0 0 (.slice none 0 0)) 25) := by rw [Below.heap_alloc _ _ _ (lt_of_some hrow)]; exact hrow
  have hx : (w1.alloc (.cells exA 42)).heap[w1.heap.size]? = some (.cells exA 42) := heap_alloc_new _ _
  have hb2 := below_then hb (Nat.le_refl _) (below_alloc w1 (.cells exA 42))
  have hne : w.heap.size ≠ w1.heap.size := Nat.ne_of_lt (lt_of_some hrow)
  have hle := hb.size
  go_wp2_with (first | ((with_reducible refine wpList_ex23 rfl _ _ _ _ _ _ _ rfl rfl rfl rfl rfl rfl rfl rfl ?_); simp only [Act.put, List.setIfInBounds_toArray, List.set_cons_succ, List.set_cons_zero]; generalize w1.alloc (.cells exA 42) = w2 at *) | ((with_reducible refine wpList_store_row rfl 25 _ _ rfl w.heap.size (blA 64 1 1 (.slice (some ⟨w1.heap.size, 0, none⟩) 7 7)) rfl rfl 25 _ hr2 (bl_inf _ _ _ _) (bl_sz _ _) (blk_one _ _ _ _ (sl_one _ _ _)) ?_); try simp only [Act.put]))
  refine bodyPost_ret (back25 rfl _ _ w.heap.size rfl (setRow_heap _ _ _ _ _ _ hr2)) rfl ?_
  refine ⟨_, rfl, ⟨w1.heap.size, rfl, ?_, hle⟩, below_setRow hb2 (Nat.le_refl _)⟩
  rw [setRow_other _ _ _ _ (Ne.symm hne)]; exact hx
/-- What is right of each operation of a right block. -/
theorem fit_of {l : List Opr} (h : opsB l = true) (himm : ∀ k, U64 (opAt l k).imm) : ∀ k, k < l.length → OpFit l (opAt l k) := by
  intro k hk
  have hk' := ops_at h hk
  unfold okAt at hk'
  simp only [Bool.and_eq_true] at hk'
  obtain ⟨⟨⟨h1, h2⟩, h3⟩, h4⟩ := hk'
  have hr : rangeB (opAt l k) = true := by
    unfold opB at h3
    simp only [Bool.and_eq_true] at h3
    exact h3.2
  have hd : ∀ p, p ∈ usesL (opAt l k) → 0 ≤ p ∧ p < l.length := fun p hp => by
    have := List.all_eq_true.1 h4 p hp
    unfold defB at this
    simp only [Bool.and_eq_true, decide_eq_true_eq] at this
    omega
  refine ⟨h1, fun ha => hd _ ?_, fun hb => hd _ ?_, hr, himm k⟩
  · unfold usesL
    rw [if_pos ha]
    exact List.mem_append_left _ List.mem_cons_self
  · unfold usesL
    rw [if_pos hb]
    exact List.mem_append_right _ List.mem_cons_self
/-- Two wants held against each other. -/
theorem stood38 : Tryd.prog.stoodInHeld 38 = false := by kernel_rfl
theorem fields38 : Tryd.prog.underlying 38 = some (.struct (Tryd.prog.fieldsOf 38)) := by rw [Program.fieldsOf, Tryd.underlying38]
theorem guard38 : Tryd.prog.eqGuardType Tryd.prog.depth 38 = false := by kernel_rfl
theorem want_eq (c d : Wnt) (w : World) : (Op.equalIn 10000 38 (wnV c) (wnV d)).run Tryd.prog w = .ok (decide (c = d)) w := by
  rw [run_equalIn_agg w 9999 38 _ _ fields38 stood38]
  obtain ⟨a0, a1, a2, a3, a4, a5, a6, a7, a8, a9⟩ := c
  obtain ⟨b0, b1, b2, b3, b4, b5, b6, b7, b8, b9⟩ := d
  have e : decide ((⟨a0, a1, a2, a3, a4, a5, a6, a7, a8, a9⟩ : Wnt) = ⟨b0, b1, b2, b3, b4, b5, b6, b7, b8, b9⟩) = (a0 == b0 && (a1 == b1 && (a2 == b2 && (a3 == b3 && (a4 == b4 && (a5 == b5 && (a6 == b6 && (a7 == b7 && (a8 == b8 && (a9 == b9 && true)))))))))) := by
    rw [Bool.eq_iff_iff]
    simp only [decide_eq_true_eq, Wnt.mk.injEq, Bool.and_eq_true, beq_iff_eq, and_true]
  rw [e, show (Tryd.prog.fieldsOf 38).toList = [⟨ "Kind", 3, 0, false, "", "", 0⟩, ⟨ "Addr", 22, 1, false, "", "", 8⟩, ⟨ "Value", 22, 2, false, "", "", 16⟩, ⟨ "Acq", 3, 3, false, "", "", 24⟩, ⟨ "Rel", 4, 4, false, "", "", 32⟩, ⟨ "Fence", 3, 5, false, "", "", 40⟩, ⟨ "Dsb", 4, 6, false, "", "", 48⟩, ⟨ "Sys", 3, 7, false, "", "", 56⟩, ⟨ "Class", 3, 8, false, "", "", 64⟩, ⟨ "Iss", 3, 9, false, "", "", 72⟩] by kernel_rfl]
  refine eqField w (by decide) ?_ (eqField w (by decide) ?_ (eqField w (by decide) ?_ (eqField w (by decide) ?_ (eqField w (by decide) ?_ (eqField w (by decide) ?_ (eqField w (by decide) ?_ (eqField w (by decide) ?_ (eqField w (by decide) ?_ (eqField w (by decide) ?_ (by simp [Op.eqFields]))))))))))
  · rw [part_c 3 (by decide) (wnA ⟨a0, a1, a2, a3, a4, a5, a6, a7, a8, a9⟩) 0 (vI a0) w rfl, Result.andThen_ok, part_c 3 (by decide) (wnA ⟨b0, b1, b2, b3, b4, b5, b6, b7, b8, b9⟩) 0 (vI b0) w rfl, Result.andThen_ok, run_equalIn_int w 9998 3 .i64 .i64 _ _ Tryd.underlying3]
  · rw [part_c 22 (by decide) (wnA ⟨a0, a1, a2, a3, a4, a5, a6, a7, a8, a9⟩) 1 (vU a1) w rfl, Result.andThen_ok, part_c 22 (by decide) (wnA ⟨b0, b1, b2, b3, b4, b5, b6, b7, b8, b9⟩) 1 (vU b1) w rfl, Result.andThen_ok, run_equalIn_int w 9998 22 .u64 .u64 _ _ Tryd.underlying22]
  · rw [part_c 22 (by decide) (wnA ⟨a0, a1, a2, a3, a4, a5, a6, a7, a8, a9⟩) 2 (vU a2) w rfl, Result.andThen_ok, part_c 22 (by decide) (wnA ⟨b0, b1, b2, b3, b4, b5, b6, b7, b8, b9⟩) 2 (vU b2) w rfl, Result.andThen_ok, run_equalIn_int w 9998 22 .u64 .u64 _ _ Tryd.underlying22]
  · rw [part_c 3 (by decide) (wnA ⟨a0, a1, a2, a3, a4, a5, a6, a7, a8, a9⟩) 3 (vI a3) w rfl, Result.andThen_ok, part_c 3 (by decide) (wnA ⟨b0, b1, b2, b3, b4, b5, b6, b7, b8, b9⟩) 3 (vI b3) w rfl, Result.andThen_ok, run_equalIn_int w 9998 3 .i64 .i64 _ _ Tryd.underlying3]
  · rw [part_c 4 (by decide) (wnA ⟨a0, a1, a2, a3, a4, a5, a6, a7, a8, a9⟩) 4 (.bool a4) w rfl, Result.andThen_ok, part_c 4 (by decide) (wnA ⟨b0, b1, b2, b3, b4, b5, b6, b7, b8, b9⟩) 4 (.bool b4) w rfl, Result.andThen_ok, run_equalIn_bool' w 9998 4 _ _ Tryd.underlying4]
  · rw [part_c 3 (by decide) (wnA ⟨a0, a1, a2, a3, a4, a5, a6, a7, a8, a9⟩) 5 (vI a5) w rfl, Result.andThen_ok, part_c 3 (by decide) (wnA ⟨b0, b1, b2, b3, b4, b5, b6, b7, b8, b9⟩) 5 (vI b5) w rfl, Result.andThen_ok, run_equalIn_int w 9998 3 .i64 .i64 _ _ Tryd.underlying3]
  · rw [part_c 4 (by decide) (wnA ⟨a0, a1, a2, a3, a4, a5, a6, a7, a8, a9⟩) 6 (.bool a6) w rfl, Result.andThen_ok, part_c 4 (by decide) (wnA ⟨b0, b1, b2, b3, b4, b5, b6, b7, b8, b9⟩) 6 (.bool b6) w rfl, Result.andThen_ok, run_equalIn_bool' w 9998 4 _ _ Tryd.underlying4]
  · rw [part_c 3 (by decide) (wnA ⟨a0, a1, a2, a3, a4, a5, a6, a7, a8, a9⟩) 7 (vI a7) w rfl, Result.andThen_ok, part_c 3 (by decide) (wnA ⟨b0, b1, b2, b3, b4, b5, b6, b7, b8, b9⟩) 7 (vI b7) w rfl, Result.andThen_ok, run_equalIn_int w 9998 3 .i64 .i64 _ _ Tryd.underlying3]
  · rw [part_c 3 (by decide) (wnA ⟨a0, a1, a2, a3, a4, a5, a6, a7, a8, a9⟩) 8 (vI a8) w rfl, Result.andThen_ok, part_c 3 (by decide) (wnA ⟨b0, b1, b2, b3, b4, b5, b6, b7, b8, b9⟩) 8 (vI b8) w rfl, Result.andThen_ok, run_equalIn_int w 9998 3 .i64 .i64 _ _ Tryd.underlying3]
  · rw [part_c 3 (by decide) (wnA ⟨a0, a1, a2, a3, a4, a5, a6, a7, a8, a9⟩) 9 (vI a9) w rfl, Result.andThen_ok, part_c 3 (by decide) (wnA ⟨b0, b1, b2, b3, b4, b5, b6, b7, b8, b9⟩) 9 (vI b9) w rfl, Result.andThen_ok, run_equalIn_int w 9998 3 .i64 .i64 _ _ Tryd.underlying3]
theorem wpList_eql38 {ops : Array Oper} {rest : List Oper} {o : Oper} {a : Act} {w : World} {Q : Exit → Act → World → Prop} (hw : Region.wanted o (yielded ops a.tmps) = true) (x y : Operand) (ho : o.op = .binOp .eql 38 x y 38)
    (c d : Wnt) (hx : a.eval x = wnV c) (hy : a.eval y = wnV d) (b : Bool) (hb : decide (c = d) = b) (h : wpList Tryd.prog ops Q rest (a.put o.dst (.bool (b))) w) : wpList Tryd.prog ops Q (o :: rest) a w := by
  refine BigFrame.wpList_want hw fun K hK => ?_
  have he := want_eq c d w
  rw [hb] at he
  unfold Oper.wp execOp
  simp only [ho, hx, hy, Sem.run_bind, run_eqGuard_agg w _ _ _ _ _ _ guard38, Result.andThen_ok, run_eql_struct, he]
  exact hK _ _ h
theorem wpList_neq38 {ops : Array Oper} {rest : List Oper} {o : Oper} {a : Act} {w : World} {Q : Exit → Act → World → Prop} (hw : Region.wanted o (yielded ops a.tmps) = true) (x y : Operand) (ho : o.op = .binOp .neq 38 x y 38)
    (c d : Wnt) (hx : a.eval x = wnV c) (hy : a.eval y = wnV d) (b : Bool) (hb : decide (c = d) = b) (h : wpList Tryd.prog ops Q rest (a.put o.dst (.bool (!b))) w) : wpList Tryd.prog ops Q (o :: rest) a w := by
  refine BigFrame.wpList_want hw fun K hK => ?_
  have he := want_eq c d w
  rw [hb] at he
  unfold Oper.wp execOp
  simp only [ho, hx, hy, Sem.run_bind, run_eqGuard_agg w _ _ _ _ _ _ guard38, Result.andThen_ok, run_neq_struct, he]
  exact hK _ _ h
end Go.Proofs.YtioeiogcejikbaaDoor
