/- Ea, Ta, Sh, Tb, Si of the seat, joined. -/
import Derived.Test.YtccmncecpmemaaaGreatDoorXh
import Derived.Test.YtccmncecpmemaaaGreatDoorIc
import Derived.Test.YtccmncecpmemaaaGreatDoorHg
import Derived.Shelf.Strings.Builder1
import Derived.Test.YtccmncecpmemaaaGreatDoorIg
/- The example's block; what is right of operations; wants compared. -/
namespace Go.Proofs.YtccmncecpmemaaaGreatDoor
open Go.RowKit
set_option linter.unusedVariables false
set_option linter.unusedSimpArgs false
set_option maxRecDepth 8000

def exL : List Opr := [⟨14, 0, 0, 0, 0, 64⟩, ⟨2, 1, 0, 0, 0, 0⟩, ⟨1, 0, 0, 0, 0, 0⟩, ⟨8, 1, 1, 2, 0, 0⟩, ⟨9, 0, 3, 0, 0, 0⟩, ⟨3, 0, 4, 0, 0, 0⟩, ⟨16, 0, 0, 0, 0, 68⟩]
def exA : Array Value := #[vI 14, vI 0, vI 0, vI 0, vI 0, vU 64, vI 2, vI 1, vI 0, vI 0, vI 0, vU 0, vI 1, vI 0, vI 0, vI 0, vI 0, vU 0, vI 8, vI 1, vI 1, vI 2, vI 0, vU 0, vI 9, vI 0, vI 3, vI 0, vI 0, vU 0, vI 3, vI 0, vI 4, vI 0, vI 0, vU 0, vI 16, vI 0, vI 0, vI 0, vI 0, vU 68]
theorem run_ex23 (w : World) : (Instr.buildSlice 23 7 #[(0, .agg #[vI 14, vI 0, vI 0, vI 0, vI 0, vU 64]), (1, .agg #[vI 2, vI 1, vI 0, vI 0, vI 0, vU 0]), (2, .agg #[vI 1, vI 0, vI 0, vI 0, vI 0, vU 0]), (3, .agg #[vI 8, vI 1, vI 1, vI 2, vI 0, vU 0]), (4, .agg #[vI 9, vI 0, vI 3, vI 0, vI 0, vU 0]), (5, .agg #[vI 3, vI 0, vI 4, vI 0, vI 0, vU 0]), (6, .agg #[vI 16, vI 0, vI 0, vI 0, vI 0, vU 68])]).run Tryz.prog w = .ok (.slice (some ⟨w.heap.size, 0, none⟩) 7 7) (w.alloc (.cells exA 27)) := by
  obtain ⟨i, hi, hz, hs, hby⟩ := info_parts info42
  exact run_buildSlice (P := Tryz.prog) w 23 27 7 _ _ i (opV nilO) Tryz.underlying23 hi hz (by rw [hs]; decide) (by rw [hs]; decide) (by rw [hs]; kernel_rfl)
theorem wpList_ex23 {ops : Array Oper} {rest : List Oper} {p : Oper} {a : Act} {w : World} {Q : Exit → Act → World → Prop} (hg : p.guard = none) (x0 x1 x2 x3 x4 x5 x6 : Operand) (ho : p.op = .buildSlice 23 7 #[(0, x0), (1, x1), (2, x2), (3, x3), (4, x4), (5, x5), (6, x6)])
    (h0 : a.eval x0 = .agg #[vI 14, vI 0, vI 0, vI 0, vI 0, vU 64])
    (h1 : a.eval x1 = .agg #[vI 2, vI 1, vI 0, vI 0, vI 0, vU 0])
    (h2 : a.eval x2 = .agg #[vI 1, vI 0, vI 0, vI 0, vI 0, vU 0])
    (h3 : a.eval x3 = .agg #[vI 8, vI 1, vI 1, vI 2, vI 0, vU 0])
    (h4 : a.eval x4 = .agg #[vI 9, vI 0, vI 3, vI 0, vI 0, vU 0])
    (h5 : a.eval x5 = .agg #[vI 3, vI 0, vI 4, vI 0, vI 0, vU 0])
    (h6 : a.eval x6 = .agg #[vI 16, vI 0, vI 0, vI 0, vI 0, vU 68])
    (h : wpList Tryz.prog ops Q rest (a.put p.dst (.slice (some ⟨w.heap.size, 0, none⟩) 7 7)) (w.alloc (.cells exA 27))) : wpList Tryz.prog ops Q (p :: rest) a w :=
  wpList_plain hg fun _ hK => by
    unfold Oper.wp execOp
    simp only [ho, Sem.run_bind, List.map_toArray, List.map_cons, List.map_nil, h0, h1, h2, h3, h4, h5, h6, run_ex23, Result.andThen_ok]
    exact hK _ _ h
theorem ex_ops {w : World} {b : Nat} (h : w.heap[b]? = some (.cells exA 27)) : Ops w (.slice (some ⟨b, 0, none⟩) 7 7) exL := by
  have hc : ∀ j, w.cell? ⟨b, j, none⟩ = exA[j]? := fun j => by rw [cell_of_row _ _ _ _ _ _ h]
  refine ⟨⟨_, _, rfl⟩, by decide, fun _ => ⟨_, _, rfl, fun i o ho => ?_⟩⟩
  rw [Addr.add_mid, Nat.zero_add]
  match i, ho with
  | 0, ho => cases ho; exact ⟨lt_of_some h, hc 0, hc 1, hc 2, hc 3, hc 4, hc 5⟩
  | 1, ho => cases ho; exact ⟨lt_of_some h, hc 6, hc 7, hc 8, hc 9, hc 10, hc 11⟩
  | 2, ho => cases ho; exact ⟨lt_of_some h, hc 12, hc 13, hc 14, hc 15, hc 16, hc 17⟩
  | 3, ho => cases ho; exact ⟨lt_of_some h, hc 18, hc 19, hc 20, hc 21, hc 22, hc 23⟩
  | 4, ho => cases ho; exact ⟨lt_of_some h, hc 24, hc 25, hc 26, hc 27, hc 28, hc 29⟩
  | 5, ho => cases ho; exact ⟨lt_of_some h, hc 30, hc 31, hc 32, hc 33, hc 34, hc 35⟩
  | 6, ho => cases ho; exact ⟨lt_of_some h, hc 36, hc 37, hc 38, hc 39, hc 40, hc 41⟩
  | i + 7, ho => simp [exL] at ho
def LoadR (w : World) (u : Value) (x : World) : Prop := ∃ b, u = blV 64 1 1 (.slice (some ⟨b, 0, none⟩) 7 7) ∧ x.heap[b]? = some (.cells exA 27) ∧ w.heap.size ≤ b
theorem bl_z (w : World) : True := trivial
theorem back25 {fn : Func} {p : Tmp} {pc words el : Int} {v : Value} (h : fn.results = #[.cell p 25]) (tmps : Array Value) (w : World) (g : Nat) (hp : tmps.getD p undef = ptr g 0) (H : w.heap[g]? = some (.cells (blA pc words el v) 25)) : (results fn tmps).run Tryz.prog w = .ok (blV pc words el v) w :=
  results_cell_row h tmps w g 25 (blA pc words el v) (0, 0) _ hp H Tryz.underlying25 rfl (bl_inf _ _ _ _)
theorem bl_sz (v u : Value) : (blA 0 0 0 v).size = (blA 64 1 1 u).size := rfl
theorem sl_one (b n m : Nat) : (Value.slice (some ⟨b, 0, none⟩) n m).oneCell' = true := rfl
set_option maxHeartbeats 2000000 in
theorem load_c (w : World) : Calls Tryz.prog 26 #[] w fun e w' => ∃ u, e = .returned u ∧ LoadR w u w' ∧ Below w.heap.size w w' := by
  have hrow : (w.alloc (.cells (blA 0 0 0 (.slice none 0 0)) 25)).heap[w.heap.size]? = some (.cells (blA 0 0 0 (.slice none 0 0)) 25) := heap_alloc_new _ _
  have hb := below_alloc w (.cells (blA 0 0 0 (.slice none 0 0)) 25)
  go_enter Tryz.func26, Tryz.ntmps26
  go_upto_region 1 with fail
  generalize w.alloc (.cells (blA 0 0 0 (.slice none 0 0)) 25) = w1 at *
  have hr2 : (w1.alloc (.cells exA 27)).heap[w.heap.size]? = some (.cells (blA 0 0 0 (.slice none 0 0)) 25) := by rw [Below.heap_alloc _ _ _ (lt_of_some hrow)]; exact hrow
  have hx : (w1.alloc (.cells exA 27)).heap[w1.heap.size]? = some (.cells exA 27) := heap_alloc_new _ _
  have hb2 := below_then hb (Nat.le_refl _) (below_alloc w1 (.cells exA 27))
  have hne : w.heap.size ≠ w1.heap.size := Nat.ne_of_lt (lt_of_some hrow)
  have hle := hb.size
  go_wp2_with (first | ((with_reducible refine wpList_ex23 rfl _ _ _ _ _ _ _ rfl rfl rfl rfl rfl rfl rfl rfl ?_); simp only [Act.put, List.setIfInBounds_toArray, List.set_cons_succ, List.set_cons_zero]; generalize w1.alloc (.cells exA 27) = w2 at *) | ((with_reducible refine wpList_store_row rfl 25 _ _ rfl w.heap.size (blA 64 1 1 (.slice (some ⟨w1.heap.size, 0, none⟩) 7 7)) rfl rfl 25 _ hr2 (bl_inf _ _ _ _) (bl_sz _ _) (blk_one _ _ _ _ (sl_one _ _ _)) ?_); try simp only [Act.put]))
  refine bodyPost_ret (back25 rfl _ _ w.heap.size rfl (setRow_heap _ _ _ _ _ _ hr2)) rfl ?_
  refine ⟨_, rfl, ⟨w1.heap.size, rfl, ?_, hle⟩, below_setRow hb2 (Nat.le_refl _)⟩
  rw [setRow_other _ _ _ _ (Ne.symm hne)]; exact hx
/-- What is right of each operation of a right block. -/
theorem fit_of {l : List Opr} (h : opsB l = true) (himm : ∀ k, U64 (opAt l k).imm) : ∀ k, k < l.length → OpFit l (opAt l k) := by
  intro k hk
  have hk' := ops_at h hk
  unfold okAt at hk'
  simp only [Bool.and_eq_true] at hk'
  obtain ⟨⟨⟨h1, h2⟩, h3⟩, h4⟩ := hk'
  have hr : rangeB (opAt l k) = true := by
    unfold opB at h3
    simp only [Bool.and_eq_true] at h3
    exact h3.2
  have hd : ∀ p, p ∈ usesL (opAt l k) → 0 ≤ p ∧ p < l.length := fun p hp => by
    have := List.all_eq_true.1 h4 p hp
    unfold defB at this
    simp only [Bool.and_eq_true, decide_eq_true_eq] at this
    omega
  refine ⟨h1, fun ha => hd _ ?_, fun hb => hd _ ?_, hr, himm k⟩
  · unfold usesL
    rw [if_pos ha]
    exact List.mem_append_left _ List.mem_cons_self
  · unfold usesL
    rw [if_pos hb]
    exact List.mem_append_right _ List.mem_cons_self
/-- Two wants held against each other. -/
theorem stood38 : Tryz.prog.stoodInHeld 56 = false := by kernel_rfl
theorem fields38 : Tryz.prog.underlying 56 = some (.struct (Tryz.prog.fieldsOf 56)) := by rw [Program.fieldsOf, Tryz.underlying56]
theorem guard38 : Tryz.prog.eqGuardType Tryz.prog.depth 56 = false := by kernel_rfl
theorem want_eq (c d : Wnt) (w : World) : (Op.equalIn 10000 56 (wnV c) (wnV d)).run Tryz.prog w = .ok (decide (c = d)) w := by
  rw [run_equalIn_agg w 9999 56 _ _ fields38 stood38]
  obtain ⟨a0, a1, a2, a3, a4, a5, a6, a7, a8, a9⟩ := c
  obtain ⟨b0, b1, b2, b3, b4, b5, b6, b7, b8, b9⟩ := d
  have e : decide ((⟨a0, a1, a2, a3, a4, a5, a6, a7, a8, a9⟩ : Wnt) = ⟨b0, b1, b2, b3, b4, b5, b6, b7, b8, b9⟩) = (a0 == b0 && (a1 == b1 && (a2 == b2 && (a3 == b3 && (a4 == b4 && (a5 == b5 && (a6 == b6 && (a7 == b7 && (a8 == b8 && (a9 == b9 && true)))))))))) := by
    rw [Bool.eq_iff_iff]
    simp only [decide_eq_true_eq, Wnt.mk.injEq, Bool.and_eq_true, beq_iff_eq, and_true]
  rw [e, show (Tryz.prog.fieldsOf 56).toList = [⟨ "Kind", 3, 0, false, "", "", 0⟩, ⟨ "Addr", 22, 1, false, "", "", 8⟩, ⟨ "Value", 22, 2, false, "", "", 16⟩, ⟨ "Acq", 3, 3, false, "", "", 24⟩, ⟨ "Rel", 4, 4, false, "", "", 32⟩, ⟨ "Fence", 3, 5, false, "", "", 40⟩, ⟨ "Dsb", 4, 6, false, "", "", 48⟩, ⟨ "Sys", 3, 7, false, "", "", 56⟩, ⟨ "Class", 3, 8, false, "", "", 64⟩, ⟨ "Iss", 3, 9, false, "", "", 72⟩] by kernel_rfl]
  refine eqField w (by decide) ?_ (eqField w (by decide) ?_ (eqField w (by decide) ?_ (eqField w (by decide) ?_ (eqField w (by decide) ?_ (eqField w (by decide) ?_ (eqField w (by decide) ?_ (eqField w (by decide) ?_ (eqField w (by decide) ?_ (eqField w (by decide) ?_ (by simp [Op.eqFields]))))))))))
  · rw [part_c 3 (by decide) (wnA ⟨a0, a1, a2, a3, a4, a5, a6, a7, a8, a9⟩) 0 (vI a0) w rfl, Result.andThen_ok, part_c 3 (by decide) (wnA ⟨b0, b1, b2, b3, b4, b5, b6, b7, b8, b9⟩) 0 (vI b0) w rfl, Result.andThen_ok, run_equalIn_int w 9998 3 .i64 .i64 _ _ Tryz.underlying3]
  · rw [part_c 22 (by decide) (wnA ⟨a0, a1, a2, a3, a4, a5, a6, a7, a8, a9⟩) 1 (vU a1) w rfl, Result.andThen_ok, part_c 22 (by decide) (wnA ⟨b0, b1, b2, b3, b4, b5, b6, b7, b8, b9⟩) 1 (vU b1) w rfl, Result.andThen_ok, run_equalIn_int w 9998 22 .u64 .u64 _ _ Tryz.underlying22]
  · rw [part_c 22 (by decide) (wnA ⟨a0, a1, a2, a3, a4, a5, a6, a7, a8, a9⟩) 2 (vU a2) w rfl, Result.andThen_ok, part_c 22 (by decide) (wnA ⟨b0, b1, b2, b3, b4, b5, b6, b7, b8, b9⟩) 2 (vU b2) w rfl, Result.andThen_ok, run_equalIn_int w 9998 22 .u64 .u64 _ _ Tryz.underlying22]
  · rw [part_c 3 (by decide) (wnA ⟨a0, a1, a2, a3, a4, a5, a6, a7, a8, a9⟩) 3 (vI a3) w rfl, Result.andThen_ok, part_c 3 (by decide) (wnA ⟨b0, b1, b2, b3, b4, b5, b6, b7, b8, b9⟩) 3 (vI b3) w rfl, Result.andThen_ok, run_equalIn_int w 9998 3 .i64 .i64 _ _ Tryz.underlying3]
  · rw [part_c 4 (by decide) (wnA ⟨a0, a1, a2, a3, a4, a5, a6, a7, a8, a9⟩) 4 (.bool a4) w rfl, Result.andThen_ok, part_c 4 (by decide) (wnA ⟨b0, b1, b2, b3, b4, b5, b6, b7, b8, b9⟩) 4 (.bool b4) w rfl, Result.andThen_ok, run_equalIn_bool' w 9998 4 _ _ Tryz.underlying4]
  · rw [part_c 3 (by decide) (wnA ⟨a0, a1, a2, a3, a4, a5, a6, a7, a8, a9⟩) 5 (vI a5) w rfl, Result.andThen_ok, part_c 3 (by decide) (wnA ⟨b0, b1, b2, b3, b4, b5, b6, b7, b8, b9⟩) 5 (vI b5) w rfl, Result.andThen_ok, run_equalIn_int w 9998 3 .i64 .i64 _ _ Tryz.underlying3]
  · rw [part_c 4 (by decide) (wnA ⟨a0, a1, a2, a3, a4, a5, a6, a7, a8, a9⟩) 6 (.bool a6) w rfl, Result.andThen_ok, part_c 4 (by decide) (wnA ⟨b0, b1, b2, b3, b4, b5, b6, b7, b8, b9⟩) 6 (.bool b6) w rfl, Result.andThen_ok, run_equalIn_bool' w 9998 4 _ _ Tryz.underlying4]
  · rw [part_c 3 (by decide) (wnA ⟨a0, a1, a2, a3, a4, a5, a6, a7, a8, a9⟩) 7 (vI a7) w rfl, Result.andThen_ok, part_c 3 (by decide) (wnA ⟨b0, b1, b2, b3, b4, b5, b6, b7, b8, b9⟩) 7 (vI b7) w rfl, Result.andThen_ok, run_equalIn_int w 9998 3 .i64 .i64 _ _ Tryz.underlying3]
  · rw [part_c 3 (by decide) (wnA ⟨a0, a1, a2, a3, a4, a5, a6, a7, a8, a9⟩) 8 (vI a8) w rfl, Result.andThen_ok, part_c 3 (by decide) (wnA ⟨b0, b1, b2, b3, b4, b5, b6, b7, b8, b9⟩) 8 (vI b8) w rfl, Result.andThen_ok, run_equalIn_int w 9998 3 .i64 .i64 _ _ Tryz.underlying3]
  · rw [part_c 3 (by decide) (wnA ⟨a0, a1, a2, a3, a4, a5, a6, a7, a8, a9⟩) 9 (vI a9) w rfl, Result.andThen_ok, part_c 3 (by decide) (wnA ⟨b0, b1, b2, b3, b4, b5, b6, b7, b8, b9⟩) 9 (vI b9) w rfl, Result.andThen_ok, run_equalIn_int w 9998 3 .i64 .i64 _ _ Tryz.underlying3]
theorem wpList_eql38 {ops : Array Oper} {rest : List Oper} {o : Oper} {a : Act} {w : World} {Q : Exit → Act → World → Prop} (hw : Region.wanted o (yielded ops a.tmps) = true) (x y : Operand) (ho : o.op = .binOp .eql 56 x y 56)
    (c d : Wnt) (hx : a.eval x = wnV c) (hy : a.eval y = wnV d) (b : Bool) (hb : decide (c = d) = b) (h : wpList Tryz.prog ops Q rest (a.put o.dst (.bool (b))) w) : wpList Tryz.prog ops Q (o :: rest) a w := by
  refine BigFrame.wpList_want hw fun K hK => ?_
  have he := want_eq c d w
  rw [hb] at he
  unfold Oper.wp execOp
  simp only [ho, hx, hy, Sem.run_bind, run_eqGuard_agg w _ _ _ _ _ _ guard38, Result.andThen_ok, run_eql_struct, he]
  exact hK _ _ h
theorem wpList_neq38 {ops : Array Oper} {rest : List Oper} {o : Oper} {a : Act} {w : World} {Q : Exit → Act → World → Prop} (hw : Region.wanted o (yielded ops a.tmps) = true) (x y : Operand) (ho : o.op = .binOp .neq 56 x y 56)
    (c d : Wnt) (hx : a.eval x = wnV c) (hy : a.eval y = wnV d) (b : Bool) (hb : decide (c = d) = b) (h : wpList Tryz.prog ops Q rest (a.put o.dst (.bool (!b))) w) : wpList Tryz.prog ops Q (o :: rest) a w := by
  refine BigFrame.wpList_want hw fun K hK => ?_
  have he := want_eq c d w
  rw [hb] at he
  unfold Oper.wp execOp
  simp only [ho, hx, hy, Sem.run_bind, run_eqGuard_agg w _ _ _ _ _ _ guard38, Result.andThen_ok, run_neq_struct, he]
  exact hK _ _ h
end Go.Proofs.YtccmncecpmemaaaGreatDoor
/- A line is told. -/
namespace Go.Proofs.YtccmncecpmemaaaGreatDoor
open Go.RowKit
set_option linter.unusedVariables false
set_option linter.unusedSimpArgs false
set_option maxRecDepth 8000

/-- How a line is told, by the digits of numbers. -/
def fld (o : Opr) : Nat → Int × Int
  | 0 => (1, o.r)
  | 1 => (2, o.a)
  | 2 => (4, o.b)
  | _ => (8, o.order)
def lineS (dI : Int → ByteArray) (o : Opr) : Nat → ByteArray
  | 0 => nameV o.kind
  | i + 1 => if hasP o.kind (fld o i).1 = true then lineS dI o i ++ (⟨#[32]⟩ ++ dI (fld o i).2) else lineS dI o i
def toldS (dI dU : Int → ByteArray) (o : Opr) : ByteArray := if hasP o.kind 16 = true then lineS dI o 4 ++ (⟨#[32]⟩ ++ dU o.imm) else lineS dI o 4
def fldA (o : Opr) : Array Value := #[vI 1, vI o.r, vI 2, vI o.a, vI 4, vI o.b, vI 8, vI o.order]
theorem info85 : (Tryz.prog.info? 98).map (fun i => (i.zero, i.size, i.bytes)) = some (some (.agg #[vI 0, vI 0]), 2, 16) := by kernel_rfl
theorem run_four86 (o : Opr) (w : World) : (Instr.buildSlice 99 4 #[(0, .agg #[vI 1, vI o.r]), (1, .agg #[vI 2, vI o.a]), (2, .agg #[vI 4, vI o.b]), (3, .agg #[vI 8, vI o.order])]).run Tryz.prog w = .ok (.slice (some ⟨w.heap.size, 0, none⟩) 4 4) (w.alloc (.cells (fldA o) 98)) := by
  obtain ⟨i, hi, hz, hs, hby⟩ := info_parts info85
  exact run_buildSlice (P := Tryz.prog) w 99 98 4 _ _ i (.agg #[vI 0, vI 0]) Tryz.underlying99 hi hz (by rw [hs]; decide) (by rw [hs]; decide) (by rw [hs]; kernel_rfl)
theorem wpList_four86 {ops : Array Oper} {rest : List Oper} {p : Oper} {a : Act} {w : World} {Q : Exit → Act → World → Prop} (hg : p.guard = none) (x0 x1 x2 x3 : Operand) (ho : p.op = .buildSlice 99 4 #[(0, x0), (1, x1), (2, x2), (3, x3)]) (o : Opr) (h0 : a.eval x0 = .agg #[vI 1, vI o.r]) (h1 : a.eval x1 = .agg #[vI 2, vI o.a]) (h2 : a.eval x2 = .agg #[vI 4, vI o.b]) (h3 : a.eval x3 = .agg #[vI 8, vI o.order])
    (h : wpList Tryz.prog ops Q rest (a.put p.dst (.slice (some ⟨w.heap.size, 0, none⟩) 4 4)) (w.alloc (.cells (fldA o) 98))) : wpList Tryz.prog ops Q (p :: rest) a w :=
  wpList_plain hg fun _ hK => by
    unfold Oper.wp execOp
    simp only [ho, Sem.run_bind, List.map_toArray, List.map_cons, List.map_nil, h0, h1, h2, h3, run_four86, Result.andThen_ok]
    exact hK _ _ h
theorem run_cat (p q : ByteArray) (hl : p.size + q.size ≤ 100000) (w : World) : (binOp .add 9 (.string p) (.string q)).run Tryz.prog w = .ok (.string (p ++ q)) w := by
  have hs : (p ++ q).size ≤ 9223372036854775807 := by rw [ByteArray.size_append]; omega
  have hn : ¬ 9223372036854775807 < p.size + q.size := by omega
  go_simp
theorem exec_cat {o : Oper} {a : Act} {w : World} {x y : Operand} (ho : o.op = .binOp .add 9 x y 9) (p q : ByteArray) (hx : a.eval x = .string p) (hy : a.eval y = .string q) (hl : p.size + q.size ≤ 100000) : (execOp a.eval o).run Tryz.prog w = .ok (.value (.string (p ++ q))) w := by
  have hgd : (eqGuard .add 9 x y (.string p) (.string q)).run Tryz.prog w = .ok () w := by kernel_rfl
  unfold execOp
  simp only [ho, hx, hy, Sem.run_bind, hgd, run_cat p q hl, Result.andThen_ok, Sem.run_pure]
theorem wpList_cat {ops : Array Oper} {rest : List Oper} {o : Oper} {a : Act} {w : World} {Q : Exit → Act → World → Prop} (hw : o.guard = none) (x y : Operand) (ho : o.op = .binOp .add 9 x y 9)
    (p q : ByteArray) (hx : a.eval x = .string p) (hy : a.eval y = .string q) (hl : p.size + q.size ≤ 100000)
    (h : wpList Tryz.prog ops Q rest (a.put o.dst (.string (p ++ q))) w) : wpList Tryz.prog ops Q (o :: rest) a w := by
  refine wpList_plain hw fun K hK => ?_
  unfold Oper.wp
  rw [exec_cat ho p q hx hy hl]
  exact hK _ _ h
/-- Numbers are told. -/
structure Tells (w : World) (o : Opr) (dI dU : Int → ByteArray) : Prop where
  si : ∀ n, (dI n).size ≤ 32
  su : ∀ n, (dU n).size ≤ 32
  i : ∀ k, k < 4 → hasP o.kind (fld o k).1 = true → ∀ w1, Below w.heap.size w w1 → Calls Tryz.prog 30 #[vI (fld o k).2] w1 fun e w' => e = .returned (.string (dI (fld o k).2)) ∧ Below w1.heap.size w1 w'
  u : hasP o.kind 16 = true → ∀ w1, Below w.heap.size w w1 → Calls Tryz.prog 55 #[vU o.imm, vI 10] w1 fun e w' => e = .returned (.string (dU o.imm)) ∧ Below w1.heap.size w1 w'
theorem fld_cells (o : Opr) : ∀ k, k < 4 → (fldA o)[k * 2]? = some (vI (fld o k).1) ∧ (fldA o)[k * 2 + 1]? = some (vI (fld o k).2)
  | 0, _ => ⟨rfl, rfl⟩
  | 1, _ => ⟨rfl, rfl⟩
  | 2, _ => ⟨rfl, rfl⟩
  | 3, _ => ⟨rfl, rfl⟩
  | k + 4, h => absurd h (by omega)
theorem inf85 (a b : Value) : (Tryz.prog.info? 98).map (·.size) = some (#[a, b] : Array Value).size := by
  show (Tryz.prog.info? 98).map (·.size) = some 2
  kernel_rfl
theorem one85 (a b : Int) : (#[vI a, vI b] : Array Value).all (·.oneCell') = true := by simp [Value.oneCell']
theorem name_size (k : Int) : (nameV k).size ≤ 7 := by
  unfold nameV nam
  split <;> decide
theorem line_size {dI : Int → ByteArray} {o : Opr} (hd : ∀ n, (dI n).size ≤ 32) : ∀ i, (lineS dI o i).size ≤ 7 + 33 * i
  | 0 => name_size _
  | i + 1 => by
    have ih := line_size (o := o) hd i
    have := hd (fld o i).2
    unfold lineS
    split
    · rw [ByteArray.size_append, ByteArray.size_append]
      show _ + (1 + _) ≤ _
      omega
    · omega
theorem told_no {dI dU : Int → ByteArray} {o : Opr} (h : hasP o.kind 16 = false) : toldS dI dU o = lineS dI o 4 := by unfold toldS; rw [if_neg (by rw [h]; decide)]
theorem told_yes {dI dU : Int → ByteArray} {o : Opr} (h : hasP o.kind 16 = true) : toldS dI dU o = lineS dI o 4 ++ (⟨#[32]⟩ ++ dU o.imm) := by unfold toldS; rw [if_pos h]
theorem hs_1 (q : ByteArray) (h : q.size ≤ 32) : (⟨#[32]⟩ : ByteArray).size + q.size ≤ 100000 := by
  have e : (⟨#[32]⟩ : ByteArray).size = 1 := rfl
  rw [e]; omega
theorem hs_2 (p q : ByteArray) (hp : p.size ≤ 200) (h : q.size ≤ 32) : p.size + ((⟨#[32]⟩ : ByteArray) ++ q).size ≤ 100000 := by
  have e : (⟨#[32]⟩ : ByteArray).size = 1 := rfl
  rw [ByteArray.size_append, e]; omega
set_option maxHeartbeats 4000000 in
theorem told_c (o : Opr) (hk : isK o.kind = true) {dI dU : Int → ByteArray} {w : World} (T : Tells w o dI dU) : Calls Tryz.prog 31 #[opV o] w fun e w' => e = .returned (.string (toldS dI dU o)) ∧ Below w.heap.size w w' := by
  have H := (has_none w).new 27 (opA o)
  go_enter Tryz.func31, Tryz.ntmps31
  go_upto_region 2 with (first | (go_at_call 44; refine (shapeOf_c _ hk _).mono ?_; rintro e wS ⟨rfl, B⟩; dsimp only; replace H := H.grow B; clear B) | ((with_reducible refine wpList_store_new H rfl 88 _ _ rfl _ rfl rfl (sh_inf2 _ _) (two_size _ _ _ _) (sh_one2 _ _) ?_); clear H; intro w1 H; try simp only [Act.put]))
  have z0 := H.at List.mem_cons_self 0 _ rfl
  have c1 : w1.cell? ⟨w.heap.size, 1, none⟩ = some (vI o.r) := H.at (List.mem_cons_of_mem _ List.mem_cons_self) 1 _ rfl
  have c2 : w1.cell? ⟨w.heap.size, 2, none⟩ = some (vI o.a) := H.at (List.mem_cons_of_mem _ List.mem_cons_self) 2 _ rfl
  have c3 : w1.cell? ⟨w.heap.size, 3, none⟩ = some (vI o.b) := H.at (List.mem_cons_of_mem _ List.mem_cons_self) 3 _ rfl
  have c4 : w1.cell? ⟨w.heap.size, 4, none⟩ = some (vI o.order) := H.at (List.mem_cons_of_mem _ List.mem_cons_self) 4 _ rfl
  have H4 := H.new 98 (fldA o)
  go_wp2_with (first | ((with_reducible refine wpList_four86 rfl _ _ _ _ rfl o rfl rfl rfl rfl ?_); simp only [Act.put, List.setIfInBounds_toArray, List.set_cons_succ, List.set_cons_zero]; clear z0 c1 c2 c3 c4 H))
  generalize w1.heap.size = rb at *
  generalize wS.heap.size = sb at *
  generalize w1.alloc (.cells (fldA o) 98) = w2 at *
  generalize hL : [(rb, fldA o, 98), (sb, #[Value.string (nameV o.kind), vI (partsV o.kind)], 88), (w.heap.size, opA o, 27)] = L at *
  have m1 : (rb, fldA o, 98) ∈ L := by rw [← hL]; exact List.mem_cons_self
  have m2 : (sb, #[Value.string (nameV o.kind), vI (partsV o.kind)], 88) ∈ L := by rw [← hL]; exact List.mem_cons_of_mem _ List.mem_cons_self
  have m3 : (w.heap.size, opA o, 27) ∈ L := by rw [← hL]; exact List.mem_cons_of_mem _ (List.mem_cons_of_mem _ List.mem_cons_self)
  clear hL
  go_loopw [4, 26] (fun s4 s26 wr => ∃ i : Nat, i ≤ 4 ∧ s26 = vI i ∧ s4 = .string (lineS dI o i) ∧ Has w L wr) (fun _ s26 _ => (4 - intOf s26).toNat)
  case atStart => exact ⟨0, by decide, rfl, rfl, H4⟩
  case round =>
    clear H4
    obtain ⟨i, hi, rfl, rfl, H⟩ := hrel
    by_cases hlt : (i : Int) < 4
    · have hi4 : i < 4 := by omega
      obtain ⟨q1, q2⟩ := fld_cells o i hi4
      have z1 := H.at m1 _ _ q1
      have z2 := H.at m1 _ _ q2
      clear q1 q2
      have hfi : fld o i = ((fld o i).1, (fld o i).2) := rfl
      have hline : lineS dI o (i + 1) = if hasP o.kind (fld o i).1 = true then lineS dI o i ++ (⟨#[32]⟩ ++ dI (fld o i).2) else lineS dI o i := rfl
      have Ti := T.i i hi4
      have s1 := T.si (fld o i).2
      have s2 := line_size (o := o) T.si i
      have hs1 := hs_1 _ s1
      have hs2 := hs_2 _ _ (Nat.le_trans s2 (by omega)) s1
      clear s1 s2
      generalize (fld o i).1 = m at *
      generalize (fld o i).2 = v at *
      clear hfi
      cases hv : hasP o.kind m with
      | false =>
        rw [hv, if_neg (by decide)] at hline
        go_wp2_with (first | ((with_reducible refine wpList_store_new H rfl 98 _ _ rfl _ rfl rfl (inf85 _ _) (two_size _ _ _ _) (one85 _ _) ?_); clear H; intro w3 H; have x0 : w3.cell? ⟨wr.heap.size, 0, none⟩ = some (vI m) := H.at List.mem_cons_self 0 _ rfl; try simp only [Act.put]) | ((with_reducible refine wpList_load_if rfl 88 _ rfl _ rfl 88 _ (0, 0) _ (H.get (List.mem_cons_of_mem _ m2)) Tryz.underlying88 rfl (sh_inf2 _ _) ?_); simp only [Act.put, List.setIfInBounds_toArray, List.set_cons_succ, List.set_cons_zero]) | (go_at_call 45; refine (hasK_c _ _ _).mono ?_; rintro e w4 ⟨rfl, B⟩; dsimp only; replace H := H.grow B; clear B; simp only [hv]))
        go_roundw
        case rel => exact ⟨i + 1, by omega, by simp, by rw [hline], ⟨H.below, fun p hp => H.box p (List.mem_cons_of_mem _ hp)⟩⟩
        case measure => simp [intOf]; omega
      | true =>
        rw [hv, if_pos rfl] at hline
        go_wp2_with (first | ((with_reducible refine wpList_store_new H rfl 98 _ _ rfl _ rfl rfl (inf85 _ _) (two_size _ _ _ _) (one85 _ _) ?_); clear H; intro w3 H; have x0 : w3.cell? ⟨wr.heap.size, 0, none⟩ = some (vI m) := H.at List.mem_cons_self 0 _ rfl; try simp only [Act.put]) | ((with_reducible refine wpList_load_if rfl 88 _ rfl _ rfl 88 _ (0, 0) _ (H.get (List.mem_cons_of_mem _ m2)) Tryz.underlying88 rfl (sh_inf2 _ _) ?_); simp only [Act.put, List.setIfInBounds_toArray, List.set_cons_succ, List.set_cons_zero]) | (go_at_call 45; refine (hasK_c _ _ _).mono ?_; rintro e w4 ⟨rfl, B⟩; dsimp only; replace H := H.grow B; clear B; have x1 : w4.cell? ⟨wr.heap.size, 1, none⟩ = some (vI v) := H.at List.mem_cons_self 1 _ rfl; have k22 := Ti hv w4 H.below; simp only [hv]) | (go_at_call 30; (with_reducible refine k22.mono ?_); clear k22; rintro e w5 ⟨rfl, B⟩; dsimp only; replace H := H.grow B; clear B) | ((with_reducible refine wpList_cat rfl _ _ rfl _ _ rfl rfl hs1 ?_); simp only [Act.put, List.setIfInBounds_toArray, List.set_cons_succ, List.set_cons_zero]) | ((with_reducible refine wpList_cat rfl _ _ rfl _ _ rfl rfl hs2 ?_); simp only [Act.put, List.setIfInBounds_toArray, List.set_cons_succ, List.set_cons_zero]))
        go_roundw
        case rel => exact ⟨i + 1, by omega, by simp, by rw [hline], ⟨H.below, fun p hp => H.box p (List.mem_cons_of_mem _ hp)⟩⟩
        case measure => simp [intOf]; omega
    · have hno := fun h => told_no (dI := dI) (dU := dU) (o := o) h
      have hye := fun h => told_yes (dI := dI) (dU := dU) (o := o) h
      have hie : i = 4 := by omega
      subst hie
      have x5 := H.at m3 5 _ rfl
      have s1 := T.su o.imm
      have s2 := line_size (o := o) T.si 4
      have hs1 := hs_1 _ s1
      have hs2 := hs_2 _ _ (Nat.le_trans s2 (by decide)) s1
      clear s1 s2
      cases hu : hasP o.kind 16 with
      | false =>
        generalize lineS dI o 4 = l4 at *
        go_wp2_with (first | ((with_reducible refine wpList_load_if rfl 88 _ rfl _ rfl 88 _ (0, 0) _ (H.get m2) Tryz.underlying88 rfl (sh_inf2 _ _) ?_); simp only [Act.put, List.setIfInBounds_toArray, List.set_cons_succ, List.set_cons_zero]) | (go_at_call 45; refine (hasK_c _ _ _).mono ?_; rintro e w4 ⟨rfl, B⟩; dsimp only; replace H := H.grow B; clear B; simp only [hu]))
        go_ret
        first | exact ⟨rfl, H.below⟩ | exact ⟨by rw [hno hu], H.below⟩
      | true =>
        generalize lineS dI o 4 = l4 at *
        go_wp2_with (first | ((with_reducible refine wpList_load_if rfl 88 _ rfl _ rfl 88 _ (0, 0) _ (H.get m2) Tryz.underlying88 rfl (sh_inf2 _ _) ?_); simp only [Act.put, List.setIfInBounds_toArray, List.set_cons_succ, List.set_cons_zero]) | (go_at_call 45; refine (hasK_c _ _ _).mono ?_; rintro e w4 ⟨rfl, B⟩; dsimp only; replace H := H.grow B; clear B; have x6 : w4.cell? ⟨w.heap.size, 5, none⟩ = some (vU o.imm) := H.at m3 5 _ rfl; have k40 := T.u hu w4 H.below; simp only [hu]) | (go_at_call 55; (with_reducible refine k40.mono ?_); clear k40; rintro e w5 ⟨rfl, B⟩; dsimp only; replace H := H.grow B; clear B) | ((with_reducible refine wpList_cat rfl _ _ rfl _ _ rfl rfl hs1 ?_); simp only [Act.put, List.setIfInBounds_toArray, List.set_cons_succ, List.set_cons_zero]) | ((with_reducible refine wpList_cat rfl _ _ rfl _ _ rfl rfl hs2 ?_); simp only [Act.put, List.setIfInBounds_toArray, List.set_cons_succ, List.set_cons_zero]))
        go_ret
        first | exact ⟨rfl, H.below⟩ | exact ⟨by rw [hye hu], H.below⟩
end Go.Proofs.YtccmncecpmemaaaGreatDoor
/- strings.Builder, by the library of contracts. -/
namespace Go.Proofs.YtccmncecpmemaaaGreatDoor
open Go.RowKit
set_option linter.unusedVariables false
set_option linter.unusedSimpArgs false
set_option maxRecDepth 100000

open Go.Shelf
def ren : Go.Shelf.Ren := ⟨fun | 166 => 29 | 240 => 53 | 276 => 72 | 169 => 32 | n => n, fun | 9 => 9 | 3 => 3 | 4 => 4 | 0 => 0 | 20 => 20 | 72 => 72 | 76 => 75 | 70 => 69 | 37 => 70 | 75 => 74 | 127 => 101 | 164 => 114 | 80 => 79 | 5 => 5 | n => n, fun | n => n⟩
theorem lays166 : Go.Proofs.Lays.n166 Tryz.prog ren := {
  mixed := by kernel_rfl
  f166 := Tryz.func29.trans (congrArg some (by kernel_rfl))
  f240 := Tryz.func53.trans (congrArg some (by kernel_rfl))
  f276 := Tryz.func72.trans (congrArg some (by kernel_rfl))
  t0 := Tryz.underlying0
  a0 := Tryz.isAgg0
  z0 := Tryz.sizeOf0
  v0 := Tryz.zeroValue0
  t3 := Tryz.underlying3
  a3 := Tryz.isAgg3
  z3 := Tryz.sizeOf3
  v3 := Tryz.zeroValue3
  t4 := Tryz.underlying4
  a4 := Tryz.isAgg4
  z4 := Tryz.sizeOf4
  v4 := Tryz.zeroValue4
  t9 := Tryz.underlying9
  a9 := Tryz.isAgg9
  z9 := Tryz.sizeOf9
  v9 := Tryz.zeroValue9
  t20 := Tryz.underlying20
  a20 := Tryz.isAgg20
  z20 := Tryz.sizeOf20
  v20 := Tryz.zeroValue20
  t37 := Tryz.underlying70
  a37 := Tryz.isAgg70
  z37 := Tryz.sizeOf70
  v37 := Tryz.zeroValue70
  t70 := Tryz.underlying69
  a70 := Tryz.isAgg69
  z70 := Tryz.sizeOf69
  v70 := Tryz.zeroValue69
  t72 := Tryz.underlying72
  a72 := Tryz.isAgg72
  z72 := Tryz.sizeOf72
  v72 := Tryz.zeroValue72
  t75 := Tryz.underlying74
  a75 := Tryz.isAgg74
  z75 := Tryz.sizeOf74
  v75 := Tryz.zeroValue74
  t164 := Tryz.underlying114
  a164 := Tryz.isAgg114
  z164 := Tryz.sizeOf114
  v164 := Tryz.zeroValue114 }
theorem lays169 : Go.Proofs.Lays.n169 Tryz.prog ren := {
  mixed := by kernel_rfl
  f169 := Tryz.func32.trans (congrArg some (by kernel_rfl))
  t0 := Tryz.underlying0
  a0 := Tryz.isAgg0
  z0 := Tryz.sizeOf0
  v0 := Tryz.zeroValue0
  t3 := Tryz.underlying3
  a3 := Tryz.isAgg3
  z3 := Tryz.sizeOf3
  v3 := Tryz.zeroValue3
  t9 := Tryz.underlying9
  a9 := Tryz.isAgg9
  z9 := Tryz.sizeOf9
  v9 := Tryz.zeroValue9
  t37 := Tryz.underlying70
  a37 := Tryz.isAgg70
  z37 := Tryz.sizeOf70
  v37 := Tryz.zeroValue70
  t70 := Tryz.underlying69
  a70 := Tryz.isAgg69
  z70 := Tryz.sizeOf69
  v70 := Tryz.zeroValue69
  t72 := Tryz.underlying72
  a72 := Tryz.isAgg72
  z72 := Tryz.sizeOf72
  v72 := Tryz.zeroValue72
  t127 := Tryz.underlying101
  a127 := Tryz.isAgg101
  z127 := Tryz.sizeOf101
  v127 := Tryz.zeroValue101 }
theorem extra : Builder.Extra Tryz.prog ren := {
  sizeBuilder := by kernel_rfl
  liesBuilder := by kernel_rfl
  t5 := Tryz.underlying5
  a5 := Tryz.isAgg5
  z5 := Tryz.sizeOf5
  v5 := Tryz.zeroValue5
  infoByte := by kernel_rfl
  cellsByte := by kernel_rfl
  sizeByte := by kernel_rfl
  neB5 := by decide }
abbrev BT : Nat := 72
theorem writeString_c (B b : Nat) (bs : List Value) (s : ByteArray) (w : World) (h : Lib.IsBuilder 72 5 B b bs w) (hlen : bs.length + s.size ≤ 140737488355328) (hBw : B ≤ w.heap.size) :
    Calls Tryz.prog 29 #[ptr b 0, .string s] w fun e w' => e = .returned (.tuple #[.int .i64 s.size, .nilIface]) ∧ (Lib.BuilderAt 72 5 B b (ptr b 0) (bs ++ Lib.strCells s) w' ∧ Below B w w') := Any.Builder_WriteString lays166 extra B b bs s w h hlen hBw
theorem builderString_c (B b : Nat) (l : List UInt8) (w : World) (h : Lib.IsBuilder 72 5 B b (Lib.byteCells l) w) (h0 : l ≠ []) :
    Calls Tryz.prog 32 #[ptr b 0] w fun e w' => e = .returned (.string ⟨l.toArray⟩) ∧ Below B w w' := Any.Builder_String lays169 extra B b l w h h0
end Go.Proofs.YtccmncecpmemaaaGreatDoor
/- A block is told. -/
namespace Go.Proofs.YtccmncecpmemaaaGreatDoor
open Go.RowKit
set_option linter.unusedVariables false
set_option linter.unusedSimpArgs false
set_option maxRecDepth 8000

def rowS (dI dU : Int → ByteArray) (k : Nat) (o : Opr) : ByteArray := ((dI (k : Int) ++ ⟨#[32]⟩) ++ toldS dI dU o) ++ ⟨#[10]⟩
def linesS (dI dU : Int → ByteArray) (l : List Opr) : Nat → ByteArray
  | 0 => ⟨#[]⟩
  | k + 1 => linesS dI dU l k ++ rowS dI dU k (opAt l k)
theorem size1 (n : UInt8) : (⟨#[n]⟩ : ByteArray).size = 1 := rfl
theorem told_size {dI dU : Int → ByteArray} {o : Opr} (hd : ∀ n, (dI n).size ≤ 32) (hu : ∀ n, (dU n).size ≤ 32) : (toldS dI dU o).size ≤ 200 := by
  have h1 := line_size (o := o) hd 4
  have h2 := hu o.imm
  unfold toldS
  split
  · rw [ByteArray.size_append, ByteArray.size_append, size1]; omega
  · omega
theorem row_size {dI dU : Int → ByteArray} {k : Nat} {o : Opr} (hd : ∀ n, (dI n).size ≤ 32) (hu : ∀ n, (dU n).size ≤ 32) : (rowS dI dU k o).size ≤ 300 := by
  have h1 := told_size (o := o) hd hu
  have h2 := hd k
  unfold rowS
  rw [ByteArray.size_append, ByteArray.size_append, ByteArray.size_append, size1, size1]; omega
theorem lines_size {dI dU : Int → ByteArray} {l : List Opr} (hd : ∀ n, (dI n).size ≤ 32) (hu : ∀ n, (dU n).size ≤ 32) : ∀ k, (linesS dI dU l k).size ≤ 300 * k
  | 0 => Nat.le_refl _
  | k + 1 => by
    have := lines_size (l := l) hd hu k
    have := row_size (k := k) (o := opAt l k) hd hu
    unfold linesS
    rw [ByteArray.size_append]; omega
theorem strCells_append (a b : ByteArray) : Lib.strCells (a ++ b) = Lib.strCells a ++ Lib.strCells b := by
  unfold Lib.strCells
  rw [ByteArray.data_append, Array.toList_append, List.map_append]
theorem builder_grow {T e : TypeId} {B b : Nat} {p : Value} {bs : List Value} {w w' : World} (h : Lib.BuilderAt T e B b p bs w) (hb : Below w.heap.size w w') : Lib.BuilderAt T e B b p bs w' := by
  obtain ⟨h1, v, h2, h3, h4⟩ := h
  exact ⟨h1, v, by rw [hb.block _ (lt_of_some h2)]; exact h2, own_of_block h3 (fun k hk => hb.block k (h3.lt k hk).2), h4⟩
theorem isB_grow {T e : TypeId} {B b : Nat} {bs : List Value} {w w' : World} (h : Lib.IsBuilder T e B b bs w) (hb : Below w.heap.size w w') : Lib.IsBuilder T e B b bs w' := h.imp (fun h => builder_grow h hb) (fun h => builder_grow h hb)
/-- While a block is told. -/
structure TxI (w : World) (pc words el : Int) (v : Value) (l : List Opr) (b1 B b : Nat) (s : ByteArray) (x : World) : Prop where
  r1 : x.heap[b1]? = some (.cells (blA pc words el v) 25)
  ops : Ops x v l
  bld : Lib.IsBuilder BT 5 B b (Lib.strCells s) x
  below : Below w.heap.size w x
  hB : B ≤ x.heap.size
section
variable {w : World} {pc words el : Int} {v : Value} {l : List Opr} {b1 B b : Nat} {s : ByteArray}
theorem TxI.grow {x y : World} (h : TxI w pc words el v l b1 B b s x) (hb : Below x.heap.size x y) : TxI w pc words el v l b1 B b s y :=
  ⟨by rw [hb.block _ (lt_of_some h.r1)]; exact h.r1, h.ops.grow hb, isB_grow h.bld hb, below_then h.below (Nat.le_refl _) hb, Nat.le_trans h.hB hb.size⟩
theorem TxI.c3 {x : World} (h : TxI w pc words el v l b1 B b s x) : x.cell? ⟨b1, 3, none⟩ = some v := by rw [cell_of_row _ _ _ _ _ _ h.r1]; rfl
/-- Operations that lie below B stay. -/
def OpsLow (v : Value) (B : Nat) : Prop := ∀ ra n cap, v = .slice (some ra) n cap → 0 < n → ra.block < B
theorem TxI.wrote {x y : World} {t : ByteArray} (h : TxI w pc words el v l b1 B b s x) (hl : OpsLow v B) (h1 : b1 < B) (hw : w.heap.size ≤ B) (hb : Lib.BuilderAt BT 5 B b (ptr b 0) (Lib.strCells s ++ Lib.strCells t) y) (hB : Below B x y) : TxI w pc words el v l b1 B b (s ++ t) y := by
  refine ⟨by rw [hB.block _ h1]; exact h.r1, ?_, .inr (by rw [strCells_append]; exact hb), h.below.trans ⟨hB.os, hB.tape, hB.output, hB.size, fun k hk => hB.block k (by omega)⟩, Nat.le_trans h.hB hB.size⟩
  refine ⟨h.ops.len, h.ops.max, fun h0 => ?_⟩
  obtain ⟨ra, cap, e, hc⟩ := h.ops.cell h0
  have hlt := hl ra _ cap e h0
  refine ⟨ra, cap, e, fun i o ho => (hc i o ho).keep ?_ ?_⟩
  · exact Nat.lt_of_lt_of_le (hc i o ho).lt hB.size
  · have e1 : (ra.add (i * 6)).block = ra.block := by unfold Addr.add; split <;> rfl
    rw [e1]; exact hB.block _ hlt
end
theorem upon_cat {C : World → Prop} {w : World} (p q : ByteArray) {o : Oper} {a : Act} {x y : Operand} (hC : C w) (hl : p.size + q.size ≤ 100000) (ho : o.op = .binOp .add 9 x y 9 := by rfl) (hx : a.eval x = .string p := by rfl) (hy : a.eval y = .string q := by rfl) : Chn.upon Tryz.prog (fun v w' => v = .string (p ++ q) ∧ C w') w ((execOp a.eval o).run Tryz.prog w) := by
  rw [exec_cat ho p q hx hy hl]
  exact ⟨rfl, hC⟩

structure TxP (w : World) (pc words el : Int) (v : Value) (l : List Opr) (b1 B b : Nat) (s r : ByteArray) (t : Nat) (O : Opr) (j : Nat) (x : World) : Prop where
  a : j ≤ 2 → TxI w pc words el v l b1 B b s x ∧ LocO t O x
  b : j = 3 → TxI w pc words el v l b1 B b (s ++ r) x
theorem TxP.keep {w : World} {pc words el : Int} {v : Value} {l : List Opr} {b1 B b t j i : Nat} {s r : ByteArray} {O : Opr} {x y : World} (h : TxP w pc words el v l b1 B b s r t O j x) (hj : j ≤ 2) (hi : i ≤ 2) (hb : Below x.heap.size x y) : TxP w pc words el v l b1 B b s r t O i y :=
  ⟨fun _ => ⟨(h.a hj).1.grow hb, (h.a hj).2.grow hb⟩, fun e => absurd hi (by omega)⟩
set_option maxHeartbeats 8000000 in
theorem text_c {w : World} {pc words el : Int} {v : Value} {l : List Opr} {dI dU : Int → ByteArray} (hpc : 0 ≤ pc) (O : Ops w v l) (himm : ∀ k, 0 ≤ (opAt l k).imm) (hcap : ∀ ao n cap, v = .slice ao n cap → n ≤ cap) (hR : rightB pc words el l = true)
    (hT : ∀ k, k < l.length → ∀ w1, Below w.heap.size w w1 → Tells w1 (opAt l k) dI dU ∧ Calls Tryz.prog 30 #[vI (k : Int)] w1 fun e w' => e = .returned (.string (dI (k : Int))) ∧ Below w1.heap.size w1 w') :
    Calls Tryz.prog 7 #[blV pc words el v] w fun e w' => e = .returned (.tuple #[.string (linesS dI dU l l.length), vI 0]) ∧ Below w.heap.size w w' := by
  have hH : headB pc words el l = true := by unfold rightB at hR; rw [Bool.and_eq_true] at hR; exact hR.1
  have hOB : opsB l = true := by unfold rightB at hR; rw [Bool.and_eq_true] at hR; exact hR.2
  obtain ⟨h0, hl⟩ := headB_len hH
  obtain ⟨sI, sU⟩ : (∀ n, (dI n).size ≤ 32) ∧ (∀ n, (dU n).size ≤ 32) := ⟨(hT 0 h0 w (Below.refl _ _)).1.si, (hT 0 h0 w (Below.refl _ _)).1.su⟩
  have hb := below_alloc w (.cells (blA pc words el v) 25)
  have r1 : (w.alloc (.cells (blA pc words el v) 25)).heap[w.heap.size]? = some (.cells (blA pc words el v) 25) := heap_alloc_new _ _
  have O1 := O.grow hb
  have k1 := right_c (words := words) (el := el) hpc O1 himm hcap
  rw [hR] at k1
  obtain ⟨ao, cap, ev⟩ := O.len
  subst ev
  have hlow : ∀ B, w.heap.size ≤ B → OpsLow (.slice ao l.length cap) B := fun B hB ra n cap' e hn => by
    obtain ⟨ra2, cap2, e2, hc⟩ := O.cell h0
    rw [e2] at e; cases e
    have := (hc 0 _ (opAt_some h0)).lt
    have e1 : (ra.add (0 * 6)).block = ra.block := by unfold Addr.add; split <;> rfl
    rw [e1] at this
    omega
  go_enter Tryz.func7, Tryz.ntmps7
  go_upto_region 1 with fail
  generalize w.alloc (.cells (blA pc words el (.slice ao l.length cap)) 25) = w1 at *
  go_upto_region 3 with (first | ((with_reducible refine wpList_load_if rfl 25 _ rfl _ rfl 25 _ (0, 0) _ r1 Tryz.underlying25 rfl (bl_inf _ _ _ _) ?_); simp only [Act.put, List.setIfInBounds_toArray, List.set_cons_succ, List.set_cons_zero]) | (go_at_call 13; (with_reducible refine k1.mono ?_); clear k1; rintro e w2 ⟨rfl, B2⟩; dsimp only))
  have hb2 := below_then hb (Nat.le_refl _) B2
  have X0 : TxI w pc words el (.slice ao l.length cap) l w.heap.size w2.heap.size w2.heap.size ⟨#[]⟩ (w2.alloc (.cells #[.pointer none, .slice none 0 0] BT)) := by
    have ha := below_alloc w2 (.cells #[.pointer none, .slice none 0 0] BT)
    refine ⟨?_, (O1.grow B2).grow ha, .inl ⟨Nat.le_refl _, .slice none 0 0, heap_alloc_new _ _, ⟨rfl, .inl ⟨rfl, rfl⟩⟩, by simp [Value.ownBlock]⟩, below_then hb2 (Nat.le_refl _) ha, ha.size⟩
    have hr2 : w2.heap[w.heap.size]? = some (.cells (blA pc words el (.slice ao l.length cap)) 25) := by rw [B2.block _ (lt_of_some r1)]; exact r1
    rw [ha.block _ (lt_of_some hr2)]; exact hr2
  have hB1 : w.heap.size < w2.heap.size := Nat.lt_of_lt_of_le (lt_of_some r1) B2.size
  have hlw := hlow w2.heap.size (Nat.le_of_lt hB1)
  have z3 := X0.c3
  go_wp2
  generalize w2.alloc (.cells #[.pointer none, .slice none 0 0] BT) = w3 at *
  generalize w2.heap.size = B at *
  clear z3 hlow r1 O1 hb B2 hb2
  go_loopw [13] (fun s13 wr => ∃ k : Nat, k ≤ l.length ∧ s13 = vI k ∧ TxI w pc words el (.slice ao l.length cap) l w.heap.size B B (linesS dI dU l k) wr) (fun s13 _ => ((l.length : Int) - intOf s13).toNat)
  case atStart => exact ⟨0, Nat.zero_le _, rfl, X0⟩
  case round =>
    clear X0
    obtain ⟨k, hk, rfl, X⟩ := hrel
    by_cases hlt : (k : Int) < l.length
    · have hkl : k < l.length := by omega
      obtain ⟨ra, cap', ev', hc⟩ := X.ops.cell h0
      cases ev'
      have A := hc k _ (opAt_some hkl)
      have hok := okK (ops_at hOB hkl)
      have hTk := fun x hx => hT k hkl x hx
      have hls : linesS dI dU l (k + 1) = linesS dI dU l k ++ rowS dI dU k (opAt l k) := rfl
      have hsz := lines_size (l := l) sI sU k
      generalize opAt l k = O at *
      have t1 := told_size (o := O) sI sU
      have t2 := sI (k : Int)
      have t3 := row_size (k := k) (o := O) sI sU
      clear hc
      go_upto_region 7 with (first | ((with_reducible refine wpList_load42 rfl _ rfl _ rfl O A ?_); simp only [Act.put, List.setIfInBounds_toArray, List.set_cons_succ, List.set_cons_zero]))
      have X1 := X.grow (below_alloc wr (.cells (opA O) 27))
      have L1 := LocO.new wr O
      generalize wr.alloc (.cells (opA O) 27) = w4 at *
      generalize wr.heap.size = t at *
      clear A
      have hst : (TxP w pc words el (.slice (some ra) l.length cap) l w.heap.size B B (linesS dI dU l k) (rowS dI dU k O) t O) 0 _ := ⟨fun _ => ⟨X1.grow (below_dr _), L1.grow (below_dr _)⟩, fun h => absurd h (by decide)⟩
      refine Chn.wp_region_chainL (TxP w pc words el (.slice (some ra) l.length cap) l w.heap.size B B (linesS dI dU l k) (rowS dI dU k O) t O) [1, 4, 7] [3, 3, 3, 1, 3, 3, 3, 3] [vI (k : Int), .string (dI (k : Int)), .string (dI (k : Int) ++ ⟨#[32]⟩), opV O, .string (toldS dI dU O), .string ((dI (k : Int) ++ ⟨#[32]⟩) ++ toldS dI dU O), .string (rowS dI dU k O), .tuple #[.int .i64 (rowS dI dU k O).size, .nilIface]] (by kernel_rfl) (by kernel_rfl) (by kernel_rfl) (by kernel_rfl) (by kernel_rfl) hst ?_
      clear hst
      refine ⟨fun j w1 hj hC => by exact Chn.upon_pure hC (fun F hF => by (go_simp <;> exact hF)), ?_⟩
      simp only [Act.put, List.setIfInBounds_toArray, List.set_cons_succ, List.set_cons_zero]
      refine ⟨fun w1 hC => by
        exact Chn.upon_call (C := (TxP w pc words el (.slice (some ra) l.length cap) l w.heap.size B B (linesS dI dU l k) (rowS dI dU k O) t O) 1) (hTk w1 (hC.a (by decide)).1.below).2 (fun e2 w2 hh => ⟨hh.1, hC.keep (by decide) (by decide) hh.2⟩) (fun F hF => by (go_simp <;> exact hF)), ?_⟩
      simp only [Act.put, List.setIfInBounds_toArray, List.set_cons_succ, List.set_cons_zero]
      refine ⟨fun j w1 hj hC => by
        exact upon_cat _ _ hC (by rw [size1]; omega), ?_⟩
      simp only [Act.put, List.setIfInBounds_toArray, List.set_cons_succ, List.set_cons_zero]
      refine ⟨fun j w1 hj hC => by
        exact upon_load42 (hC.a (Nat.le_trans hj (by decide))).2.at_ hC, ?_⟩
      simp only [Act.put, List.setIfInBounds_toArray, List.set_cons_succ, List.set_cons_zero]
      refine ⟨fun w1 hC => by
        exact Chn.upon_call (C := (TxP w pc words el (.slice (some ra) l.length cap) l w.heap.size B B (linesS dI dU l k) (rowS dI dU k O) t O) 2) (told_c O hok (hTk w1 (hC.a (by decide)).1.below).1) (fun e2 w2 hh => ⟨hh.1, hC.keep (by decide) (by decide) hh.2⟩) (fun F hF => by (go_simp <;> exact hF)), ?_⟩
      simp only [Act.put, List.setIfInBounds_toArray, List.set_cons_succ, List.set_cons_zero]
      refine ⟨fun j w1 hj hC => by
        exact upon_cat _ _ hC (by rw [ByteArray.size_append, size1]; omega), ?_⟩
      simp only [Act.put, List.setIfInBounds_toArray, List.set_cons_succ, List.set_cons_zero]
      refine ⟨fun j w1 hj hC => by
        exact upon_cat _ _ hC (by rw [ByteArray.size_append, ByteArray.size_append, size1, size1]; omega), ?_⟩
      simp only [Act.put, List.setIfInBounds_toArray, List.set_cons_succ, List.set_cons_zero]
      refine ⟨fun w1 hC => by
        exact Chn.upon_call (C := (TxP w pc words el (.slice (some ra) l.length cap) l w.heap.size B B (linesS dI dU l k) (rowS dI dU k O) t O) 3) (writeString_c B B _ _ w1 (hC.a (by decide)).1.bld (by rw [Lib.strCells_length]; omega) (hC.a (by decide)).1.hB) (fun e2 w2 hh => ⟨hh.1, ⟨fun h => absurd h (by decide), fun _ => (hC.a (by decide)).1.wrote hlw hB1 (Nat.le_of_lt hB1) hh.2.1 hh.2.2⟩⟩) (fun F hF => by (go_simp <;> exact hF)), ?_⟩
      simp only [Act.put, List.setIfInBounds_toArray, List.set_cons_succ, List.set_cons_zero]
      intro w5 hC
      have X5 := hC.b rfl
      rw [← hls] at X5
      clear hC
      go_wp2
      go_roundw
      case rel => exact ⟨k + 1, by omega, by simp, X5⟩
      case measure => simp [intOf]; omega
    · have hke : k = l.length := by omega
      subst hke
      have hne : (linesS dI dU l l.length).data.toList ≠ [] := by
        intro e
        have h1 : (linesS dI dU l l.length).size = 0 := by
          show (linesS dI dU l l.length).data.size = 0
          rw [← Array.length_toList, e]; rfl
        obtain ⟨m, hm⟩ : ∃ m, l.length = m + 1 := ⟨l.length - 1, by omega⟩
        rw [hm] at h1
        have h2 : (linesS dI dU l (m + 1)).size = (linesS dI dU l m).size + (rowS dI dU m (opAt l m)).size := by
          show (linesS dI dU l m ++ rowS dI dU m (opAt l m)).size = _
          rw [ByteArray.size_append]
        have h3 : 1 ≤ (rowS dI dU m (opAt l m)).size := by
          unfold rowS
          rw [ByteArray.size_append, size1]; omega
        omega
      have k24 := builderString_c B B _ wr (by rw [← Lib.strCells_eq]; exact X.bld) hne
      have hst : (.string ⟨(linesS dI dU l l.length).data.toList.toArray⟩ : Value) = .string (linesS dI dU l l.length) := by
        rw [Array.toArray_toList]
      rw [hst] at k24
      generalize hLS : linesS dI dU l l.length = LS at *
      go_wp2_with (first | (go_at_call 32; (with_reducible refine k24.mono ?_); clear k24; rintro e w5 ⟨rfl, B5⟩; dsimp only))
      go_ret2
      exact ⟨by first | rfl | (rw [hLS]; rfl), X.below.trans ⟨B5.os, B5.tape, B5.output, B5.size, fun j hj => B5.block j (by omega)⟩⟩
end Go.Proofs.YtccmncecpmemaaaGreatDoor
/- Small numbers as digits. -/
namespace Go.Proofs.YtccmncecpmemaaaGreatDoor
open Go.RowKit
set_option linter.unusedVariables false
set_option linter.unusedSimpArgs false
set_option maxRecDepth 8000

theorem nd (w : World) : Below w.heap.size w w := Below.refl _ _
set_option maxHeartbeats 1000000 in
theorem small_0 (w : World) : Calls Tryz.prog 90 #[vI 0] w fun e w' => e = .returned (.string ⟨#[48]⟩) ∧ w' = w := by
  go_enter Tryz.func90, Tryz.ntmps90
  go_wp2
  go_ret
  exact ⟨by kernel_rfl, rfl⟩
set_option maxHeartbeats 1000000 in
theorem itoa_0 (w : World) : Calls Tryz.prog 30 #[vI 0] w fun e w' => e = .returned (.string ⟨#[48]⟩) ∧ w' = w := by
  have k3 := small_0 w
  have k2 : Calls Tryz.prog 73 #[vI 0, vI 10] w fun e w' => e = .returned (.string ⟨#[48]⟩) ∧ w' = w := by
    go_enter Tryz.func73, Tryz.ntmps73
    go_wp2_with (first | (go_at_call 90; (with_reducible refine k3.mono ?_); rintro e w ⟨rfl, rfl⟩; dsimp only))
    go_ret
    exact ⟨rfl, rfl⟩
  have k1 : Calls Tryz.prog 54 #[vI 0] w fun e w' => e = .returned (.string ⟨#[48]⟩) ∧ w' = w := by
    go_enter Tryz.func54, Tryz.ntmps54
    go_wp2_with (first | (go_at_call 73; (with_reducible refine k2.mono ?_); rintro e w ⟨rfl, rfl⟩; dsimp only))
    go_ret
    exact ⟨rfl, rfl⟩
  go_enter Tryz.func30, Tryz.ntmps30
  go_wp2_with (first | (go_at_call 54; (with_reducible refine k1.mono ?_); rintro e w ⟨rfl, rfl⟩; dsimp only))
  go_ret
  exact ⟨rfl, rfl⟩
set_option maxHeartbeats 1000000 in
theorem uint_0 (w : World) : Calls Tryz.prog 55 #[vU 0, vI 10] w fun e w' => e = .returned (.string ⟨#[48]⟩) ∧ w' = w := by
  have k3 := small_0 w
  have k2 : Calls Tryz.prog 74 #[vU 0, vI 10] w fun e w' => e = .returned (.string ⟨#[48]⟩) ∧ w' = w := by
    go_enter Tryz.func74, Tryz.ntmps74
    go_wp2_with (first | (go_at_call 90; (with_reducible refine k3.mono ?_); rintro e w ⟨rfl, rfl⟩; dsimp only))
    go_ret
    exact ⟨rfl, rfl⟩
  go_enter Tryz.func55, Tryz.ntmps55
  go_wp2_with (first | (go_at_call 74; (with_reducible refine k2.mono ?_); rintro e w ⟨rfl, rfl⟩; dsimp only))
  go_ret
  exact ⟨rfl, rfl⟩
set_option maxHeartbeats 1000000 in
theorem small_1 (w : World) : Calls Tryz.prog 90 #[vI 1] w fun e w' => e = .returned (.string ⟨#[49]⟩) ∧ w' = w := by
  go_enter Tryz.func90, Tryz.ntmps90
  go_wp2
  go_ret
  exact ⟨by kernel_rfl, rfl⟩
set_option maxHeartbeats 1000000 in
theorem itoa_1 (w : World) : Calls Tryz.prog 30 #[vI 1] w fun e w' => e = .returned (.string ⟨#[49]⟩) ∧ w' = w := by
  have k3 := small_1 w
  have k2 : Calls Tryz.prog 73 #[vI 1, vI 10] w fun e w' => e = .returned (.string ⟨#[49]⟩) ∧ w' = w := by
    go_enter Tryz.func73, Tryz.ntmps73
    go_wp2_with (first | (go_at_call 90; (with_reducible refine k3.mono ?_); rintro e w ⟨rfl, rfl⟩; dsimp only))
    go_ret
    exact ⟨rfl, rfl⟩
  have k1 : Calls Tryz.prog 54 #[vI 1] w fun e w' => e = .returned (.string ⟨#[49]⟩) ∧ w' = w := by
    go_enter Tryz.func54, Tryz.ntmps54
    go_wp2_with (first | (go_at_call 73; (with_reducible refine k2.mono ?_); rintro e w ⟨rfl, rfl⟩; dsimp only))
    go_ret
    exact ⟨rfl, rfl⟩
  go_enter Tryz.func30, Tryz.ntmps30
  go_wp2_with (first | (go_at_call 54; (with_reducible refine k1.mono ?_); rintro e w ⟨rfl, rfl⟩; dsimp only))
  go_ret
  exact ⟨rfl, rfl⟩
set_option maxHeartbeats 1000000 in
theorem small_2 (w : World) : Calls Tryz.prog 90 #[vI 2] w fun e w' => e = .returned (.string ⟨#[50]⟩) ∧ w' = w := by
  go_enter Tryz.func90, Tryz.ntmps90
  go_wp2
  go_ret
  exact ⟨by kernel_rfl, rfl⟩
set_option maxHeartbeats 1000000 in
theorem itoa_2 (w : World) : Calls Tryz.prog 30 #[vI 2] w fun e w' => e = .returned (.string ⟨#[50]⟩) ∧ w' = w := by
  have k3 := small_2 w
  have k2 : Calls Tryz.prog 73 #[vI 2, vI 10] w fun e w' => e = .returned (.string ⟨#[50]⟩) ∧ w' = w := by
    go_enter Tryz.func73, Tryz.ntmps73
    go_wp2_with (first | (go_at_call 90; (with_reducible refine k3.mono ?_); rintro e w ⟨rfl, rfl⟩; dsimp only))
    go_ret
    exact ⟨rfl, rfl⟩
  have k1 : Calls Tryz.prog 54 #[vI 2] w fun e w' => e = .returned (.string ⟨#[50]⟩) ∧ w' = w := by
    go_enter Tryz.func54, Tryz.ntmps54
    go_wp2_with (first | (go_at_call 73; (with_reducible refine k2.mono ?_); rintro e w ⟨rfl, rfl⟩; dsimp only))
    go_ret
    exact ⟨rfl, rfl⟩
  go_enter Tryz.func30, Tryz.ntmps30
  go_wp2_with (first | (go_at_call 54; (with_reducible refine k1.mono ?_); rintro e w ⟨rfl, rfl⟩; dsimp only))
  go_ret
  exact ⟨rfl, rfl⟩
set_option maxHeartbeats 1000000 in
theorem small_3 (w : World) : Calls Tryz.prog 90 #[vI 3] w fun e w' => e = .returned (.string ⟨#[51]⟩) ∧ w' = w := by
  go_enter Tryz.func90, Tryz.ntmps90
  go_wp2
  go_ret
  exact ⟨by kernel_rfl, rfl⟩
set_option maxHeartbeats 1000000 in
theorem itoa_3 (w : World) : Calls Tryz.prog 30 #[vI 3] w fun e w' => e = .returned (.string ⟨#[51]⟩) ∧ w' = w := by
  have k3 := small_3 w
  have k2 : Calls Tryz.prog 73 #[vI 3, vI 10] w fun e w' => e = .returned (.string ⟨#[51]⟩) ∧ w' = w := by
    go_enter Tryz.func73, Tryz.ntmps73
    go_wp2_with (first | (go_at_call 90; (with_reducible refine k3.mono ?_); rintro e w ⟨rfl, rfl⟩; dsimp only))
    go_ret
    exact ⟨rfl, rfl⟩
  have k1 : Calls Tryz.prog 54 #[vI 3] w fun e w' => e = .returned (.string ⟨#[51]⟩) ∧ w' = w := by
    go_enter Tryz.func54, Tryz.ntmps54
    go_wp2_with (first | (go_at_call 73; (with_reducible refine k2.mono ?_); rintro e w ⟨rfl, rfl⟩; dsimp only))
    go_ret
    exact ⟨rfl, rfl⟩
  go_enter Tryz.func30, Tryz.ntmps30
  go_wp2_with (first | (go_at_call 54; (with_reducible refine k1.mono ?_); rintro e w ⟨rfl, rfl⟩; dsimp only))
  go_ret
  exact ⟨rfl, rfl⟩
set_option maxHeartbeats 1000000 in
theorem small_4 (w : World) : Calls Tryz.prog 90 #[vI 4] w fun e w' => e = .returned (.string ⟨#[52]⟩) ∧ w' = w := by
  go_enter Tryz.func90, Tryz.ntmps90
  go_wp2
  go_ret
  exact ⟨by kernel_rfl, rfl⟩
set_option maxHeartbeats 1000000 in
theorem itoa_4 (w : World) : Calls Tryz.prog 30 #[vI 4] w fun e w' => e = .returned (.string ⟨#[52]⟩) ∧ w' = w := by
  have k3 := small_4 w
  have k2 : Calls Tryz.prog 73 #[vI 4, vI 10] w fun e w' => e = .returned (.string ⟨#[52]⟩) ∧ w' = w := by
    go_enter Tryz.func73, Tryz.ntmps73
    go_wp2_with (first | (go_at_call 90; (with_reducible refine k3.mono ?_); rintro e w ⟨rfl, rfl⟩; dsimp only))
    go_ret
    exact ⟨rfl, rfl⟩
  have k1 : Calls Tryz.prog 54 #[vI 4] w fun e w' => e = .returned (.string ⟨#[52]⟩) ∧ w' = w := by
    go_enter Tryz.func54, Tryz.ntmps54
    go_wp2_with (first | (go_at_call 73; (with_reducible refine k2.mono ?_); rintro e w ⟨rfl, rfl⟩; dsimp only))
    go_ret
    exact ⟨rfl, rfl⟩
  go_enter Tryz.func30, Tryz.ntmps30
  go_wp2_with (first | (go_at_call 54; (with_reducible refine k1.mono ?_); rintro e w ⟨rfl, rfl⟩; dsimp only))
  go_ret
  exact ⟨rfl, rfl⟩
set_option maxHeartbeats 1000000 in
theorem small_5 (w : World) : Calls Tryz.prog 90 #[vI 5] w fun e w' => e = .returned (.string ⟨#[53]⟩) ∧ w' = w := by
  go_enter Tryz.func90, Tryz.ntmps90
  go_wp2
  go_ret
  exact ⟨by kernel_rfl, rfl⟩
set_option maxHeartbeats 1000000 in
theorem itoa_5 (w : World) : Calls Tryz.prog 30 #[vI 5] w fun e w' => e = .returned (.string ⟨#[53]⟩) ∧ w' = w := by
  have k3 := small_5 w
  have k2 : Calls Tryz.prog 73 #[vI 5, vI 10] w fun e w' => e = .returned (.string ⟨#[53]⟩) ∧ w' = w := by
    go_enter Tryz.func73, Tryz.ntmps73
    go_wp2_with (first | (go_at_call 90; (with_reducible refine k3.mono ?_); rintro e w ⟨rfl, rfl⟩; dsimp only))
    go_ret
    exact ⟨rfl, rfl⟩
  have k1 : Calls Tryz.prog 54 #[vI 5] w fun e w' => e = .returned (.string ⟨#[53]⟩) ∧ w' = w := by
    go_enter Tryz.func54, Tryz.ntmps54
    go_wp2_with (first | (go_at_call 73; (with_reducible refine k2.mono ?_); rintro e w ⟨rfl, rfl⟩; dsimp only))
    go_ret
    exact ⟨rfl, rfl⟩
  go_enter Tryz.func30, Tryz.ntmps30
  go_wp2_with (first | (go_at_call 54; (with_reducible refine k1.mono ?_); rintro e w ⟨rfl, rfl⟩; dsimp only))
  go_ret
  exact ⟨rfl, rfl⟩
set_option maxHeartbeats 1000000 in
theorem small_6 (w : World) : Calls Tryz.prog 90 #[vI 6] w fun e w' => e = .returned (.string ⟨#[54]⟩) ∧ w' = w := by
  go_enter Tryz.func90, Tryz.ntmps90
  go_wp2
  go_ret
  exact ⟨by kernel_rfl, rfl⟩
set_option maxHeartbeats 1000000 in
theorem itoa_6 (w : World) : Calls Tryz.prog 30 #[vI 6] w fun e w' => e = .returned (.string ⟨#[54]⟩) ∧ w' = w := by
  have k3 := small_6 w
  have k2 : Calls Tryz.prog 73 #[vI 6, vI 10] w fun e w' => e = .returned (.string ⟨#[54]⟩) ∧ w' = w := by
    go_enter Tryz.func73, Tryz.ntmps73
    go_wp2_with (first | (go_at_call 90; (with_reducible refine k3.mono ?_); rintro e w ⟨rfl, rfl⟩; dsimp only))
    go_ret
    exact ⟨rfl, rfl⟩
  have k1 : Calls Tryz.prog 54 #[vI 6] w fun e w' => e = .returned (.string ⟨#[54]⟩) ∧ w' = w := by
    go_enter Tryz.func54, Tryz.ntmps54
    go_wp2_with (first | (go_at_call 73; (with_reducible refine k2.mono ?_); rintro e w ⟨rfl, rfl⟩; dsimp only))
    go_ret
    exact ⟨rfl, rfl⟩
  go_enter Tryz.func30, Tryz.ntmps30
  go_wp2_with (first | (go_at_call 54; (with_reducible refine k1.mono ?_); rintro e w ⟨rfl, rfl⟩; dsimp only))
  go_ret
  exact ⟨rfl, rfl⟩
set_option maxHeartbeats 1000000 in
theorem small_64 (w : World) : Calls Tryz.prog 90 #[vI 64] w fun e w' => e = .returned (.string ⟨#[54, 52]⟩) ∧ w' = w := by
  go_enter Tryz.func90, Tryz.ntmps90
  go_wp2
  go_ret
  exact ⟨by kernel_rfl, rfl⟩
set_option maxHeartbeats 1000000 in
theorem uint_64 (w : World) : Calls Tryz.prog 55 #[vU 64, vI 10] w fun e w' => e = .returned (.string ⟨#[54, 52]⟩) ∧ w' = w := by
  have k3 := small_64 w
  have k2 : Calls Tryz.prog 74 #[vU 64, vI 10] w fun e w' => e = .returned (.string ⟨#[54, 52]⟩) ∧ w' = w := by
    go_enter Tryz.func74, Tryz.ntmps74
    go_wp2_with (first | (go_at_call 90; (with_reducible refine k3.mono ?_); rintro e w ⟨rfl, rfl⟩; dsimp only))
    go_ret
    exact ⟨rfl, rfl⟩
  go_enter Tryz.func55, Tryz.ntmps55
  go_wp2_with (first | (go_at_call 74; (with_reducible refine k2.mono ?_); rintro e w ⟨rfl, rfl⟩; dsimp only))
  go_ret
  exact ⟨rfl, rfl⟩
set_option maxHeartbeats 1000000 in
theorem small_68 (w : World) : Calls Tryz.prog 90 #[vI 68] w fun e w' => e = .returned (.string ⟨#[54, 56]⟩) ∧ w' = w := by
  go_enter Tryz.func90, Tryz.ntmps90
  go_wp2
  go_ret
  exact ⟨by kernel_rfl, rfl⟩
set_option maxHeartbeats 1000000 in
theorem uint_68 (w : World) : Calls Tryz.prog 55 #[vU 68, vI 10] w fun e w' => e = .returned (.string ⟨#[54, 56]⟩) ∧ w' = w := by
  have k3 := small_68 w
  have k2 : Calls Tryz.prog 74 #[vU 68, vI 10] w fun e w' => e = .returned (.string ⟨#[54, 56]⟩) ∧ w' = w := by
    go_enter Tryz.func74, Tryz.ntmps74
    go_wp2_with (first | (go_at_call 90; (with_reducible refine k3.mono ?_); rintro e w ⟨rfl, rfl⟩; dsimp only))
    go_ret
    exact ⟨rfl, rfl⟩
  go_enter Tryz.func55, Tryz.ntmps55
  go_wp2_with (first | (go_at_call 74; (with_reducible refine k2.mono ?_); rintro e w ⟨rfl, rfl⟩; dsimp only))
  go_ret
  exact ⟨rfl, rfl⟩
end Go.Proofs.YtccmncecpmemaaaGreatDoor
